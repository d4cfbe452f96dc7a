/-
  The walk of ShaOnce.
-/
import Derived.Test.YtcpoccahneppiaaDoorPrtsN
import Derived.Test.YtcpoccahneppiaaDoorShaArg
import Derived.Test.YtcpoccahneppiaaDoorShaAwake
import Derived.Test.YtcpoccahneppiaaDoorShaSize
import Derived.Test.YtcpoccahneppiaaDoorKlt
import Derived.Test.YtcpoccahneppiaaDoorStr
import Derived.Test.YtcpoccahneppiaaDoorRegRel2
namespace Go.Proofs.YtcpoccahneppiaaDoor
open Go.ChangeShapes Go.WideShapes Go.ChangeAt Go.RowKit
attribute [local go_sem] Gives
theorem eltU : Elt 22 5 .u8 := elt_of Tryd.underlying22 (by kernel_rfl) (by kernel_rfl) (by kernel_rfl)
section
variable {a : Act} {w : World} {dst : Option Tmp} {ty : TypeId} {pos : String} {after : Array Edge} {x : Operand} {g m : Nat} {f : Nat → Nat} {b : Bool} {gd : Option (Nat × Bool)} {R : World → Prop}
theorem gives_ldpo (hx : a.eval x = .pointer (some ⟨g, 0, none⟩)) (hb : Blk w g 29 (pre f m b)) (hR : R w) : Gives Tryd.prog ⟨dst, .load 29 x, ty, pos, after, gd⟩ a w (.agg (pre f m b)) R :=
  gives_value (w' := w) (by simp only [execOp, hx, Sem.run_bind, run_ldp hb, Result.andThen_ok, Sem.run_pure]) hR
theorem gives_ldto (hx : a.eval x = .pointer (some ⟨g, 0, none⟩)) (hb : Blk w g 34 (tag f)) (hR : R w) : Gives Tryd.prog ⟨dst, .load 34 x, ty, pos, after, gd⟩ a w (.agg (tag f)) R :=
  gives_value (w' := w) (by simp only [execOp, hx, Sem.run_bind, run_ldt hb, Result.andThen_ok, Sem.run_pure]) hR
end
theorem slcs_one {w : World} {t : TypeId} {A : Option Addr} {n c : Nat} : Slcs (w.alloc (.cells #[.slice A n c] t)) (w.heap.size + 1) (some ⟨w.heap.size, 0, none⟩) 1 fun _ => n := fun _ =>
  ⟨w.heap.size, 0, rfl, Nat.lt_succ_self _, fun i hi => by
    obtain rfl : i = 0 := by omega
    exact ⟨A, c, (Blk.top (t := t) rfl rfl).cell 0⟩⟩
theorem slcs_two {w : World} {t : TypeId} {K A : Option Addr} {kn kc n c : Nat} : Slcs (w.alloc (.cells #[.slice K kn kc, .slice A n c] t)) (w.heap.size + 1) (some ⟨w.heap.size, 0, none⟩) 2 fun i => if i = 0 then kn else n := fun _ =>
  ⟨w.heap.size, 0, rfl, Nat.lt_succ_self _, fun i hi => by
    match i, hi with
    | 0, _ => exact ⟨K, kc, (Blk.top (t := t) rfl rfl).cell 0⟩
    | 1, _ => exact ⟨A, c, (Blk.top (t := t) rfl rfl).cell 1⟩⟩
theorem PrtsN.slcs {w : World} {B : Nat} {A : Option Addr} {ls : List (List Nat)} {k : Nat} (h : PrtsN w B A ls) (hk : ls.length = k) : Slcs w B A k fun i => (ls.getD i []).length := fun hn => by
  obtain ⟨b, o, rfl, hl, hr⟩ := h (by omega)
  refine ⟨b, o, rfl, hl, fun i hi => ?_⟩
  obtain ⟨A', c, h1, _⟩ := hr i (by omega)
  exact ⟨A', c, h1⟩
theorem alloc_tagU (w : World) : (Instr.alloc 34 true (.tuple #[])).run Tryd.prog w = .ok (.pointer (some ⟨w.heap.size, 0, none⟩)) (w.alloc (.cells (tag fun _ => 0) 34)) := by
  have hz := (zero_of_info (P := Tryd.prog) (t := 34) (v := .agg (tag fun _ => 0)) (n := 32) (by kernel_rfl)).1
  simp [Instr.alloc, Sem.run_bind, hz w, newVar, newRow, Value.cells]
/-- Whole 64s. -/
theorem whole_any (A : Option Addr) (n cap : Nat) (hc : n ≤ cap) (hm : cap ≤ maxLen) (w : World) :
    Calls Tryd.prog 22 #[.slice A n cap] w fun e w' => e = .returned (.slice A (n / 64 * 64) cap) ∧ w = w' := by
  unfold maxLen at hm
  obtain ⟨q, hq⟩ : ∃ q, q = n / 64 := ⟨_, rfl⟩
  obtain ⟨k, hk⟩ : ∃ k, k = n / 64 * 64 := ⟨_, rfl⟩
  have e1 : (n : Int) / 64 = (q : Int) := by omega
  have e2 : (q : Int) * 64 = (k : Int) := by omega
  have e3 : IntKind.i64.wrap ((q : Int) * 64) = (k : Int) := by rw [e2]; exact IntWalk.i64_in _ (by omega)
  have hkc : (k : Int) ≤ (cap : Int) := by omega
  rw [← hk]
  clear hq hk
  go_enter Tryd.func22, Tryd.ntmps22
  go_wp2_with fail
  go_ret
  exact ⟨rfl, rfl⟩
/-- What an operation yields, where that hangs on nothing. -/
def xS (l : List (Option Value)) (j : Nat) (v : Value) : Prop := match l.getD j none with | some x => v = x | none => True
def xV (l : List (Option Value)) (j : Nat) : Value := (l.getD j none).getD undef
theorem xS_ok (l : List (Option Value)) (j : Nat) : xS l j (xV l j) := by
  unfold xS xV
  cases l.getD j none with
  | none => trivial
  | some x => rfl
/-- What the world holds of the slices that are made one out of the other (operations k0, k1, k2), and of a variable that is made (k3). -/
def xD (k0 k1 k2 k3 B : Nat) (o a : List Nat) (j : Nat) (vs : Nat → Value) (w : World) : Prop :=
  (j = k0 → Own 5 .u8 w B (vs j) []) ∧ (j = k1 → Own 5 .u8 w B (vs j) o) ∧ (j = k2 → Own 5 .u8 w B (vs j) a) ∧ (j = k3 → ∃ g, vs j = .pointer (some ⟨g, 0, none⟩) ∧ Blk w g 34 (tag fun _ => 0) ∧ B ≤ g)
section
variable {k0 k1 k2 k3 B i : Nat} {o a m : List Nat} {vs : Nat → Value} {w w' : World} {L : Array Oper}
theorem xD_none {j : Nat} (h0 : j ≠ k0) (h1 : j ≠ k1) (h2 : j ≠ k2) (h3 : j ≠ k3) : xD k0 k1 k2 k3 B o a j vs w := ⟨fun e => absurd e h0, fun e => absurd e h1, fun e => absurd e h2, fun e => absurd e h3⟩
theorem xD_below (j : Nat) (h : xD k0 k1 k2 k3 B o a j vs w) (hb : Below w.heap.size w w') : xD k0 k1 k2 k3 B o a j vs w' :=
  ⟨fun e => (h.1 e).below hb, fun e => (h.2.1 e).below hb, fun e => (h.2.2.1 e).below hb, fun e => by
    obtain ⟨g, h1, h2, h3⟩ := h.2.2.2 e
    exact ⟨g, h1, h2.below hb h2.lt, h3⟩⟩
theorem xD_loc {j : Nat} {v : Value} (hji : j ≠ i) (h : xD k0 k1 k2 k3 B o a j vs w) : xD k0 k1 k2 k3 B o a j (updV vs i v) w := by
  unfold xD at h ⊢
  rw [updV_ne _ _ hji]
  exact h
def xK (k0 k1 k2 k3 : Nat) (L : Array Oper) (B : Nat) (o a : List Nat) (i : Nat) (vs : Nat → Value) (w w' : World) : Prop :=
  ∀ j, j ≠ i → Region.waitsFor .any L j i = false → xD k0 k1 k2 k3 B o a j vs w → xD k0 k1 k2 k3 B o a j vs w'
theorem xK_below (hb : Below w.heap.size w w') : xK k0 k1 k2 k3 L B o a i vs w w' := fun j _ _ h => xD_below j h hb
theorem xK_app {u : Value} (hu : Own 5 .u8 w B u m) (hg : w.grownBy w' u.ownBlock) (hu' : Own 5 .u8 w' B u m)
    (h1 : k1 ≠ i → Region.waitsFor .any L k1 i = false → o.length ≤ m.length) (h2 : k2 ≠ i → Region.waitsFor .any L k2 i = false → a.length ≤ m.length) : xK k0 k1 k2 k3 L B o a i vs w w' := by
  intro j hji hwt h
  refine ⟨fun e => Own.beside (h.1 e) hu hg hu' (Nat.zero_le _), fun e => Own.beside (h.2.1 e) hu hg hu' (h1 (e ▸ hji) (e ▸ hwt)), fun e => Own.beside (h.2.2.1 e) hu hg hu' (h2 (e ▸ hji) (e ▸ hwt)), fun e => ?_⟩
  obtain ⟨g, e1, e2, e3⟩ := h.2.2.2 e
  refine ⟨g, e1, e2.apart hg fun e4 => ?_, e3⟩
  rcases hu.2 with ⟨rfl, _⟩ | ⟨g2, cap2, cur2, rfl, _, hg2, _⟩
  · cases e4
  · have e5 : g2 = g := Option.some.inj e4
    subst e5
    have e6 : w.heap[g2]? = some (.cells (tag fun _ => 0) 34 (0, 0)) := e2
    rw [hg2] at e6
    cases e6
end
set_option maxHeartbeats 2000000 in
set_option maxRecDepth 100000 in
theorem once_short (KA : Option Addr) (la0 : List Nat) (na0 ca : Nat) (KB : Option Addr) (lb0 : List Nat) (nb0 cb : Nat) (A : Option Addr) (ls : List (List Nat)) (n cap : Nat) (hna : na0 ≤ 3000) (hnb : nb0 ≤ 3000) (hn20 : n ≤ 20) (hl : ls.length = n) (hls : ∀ l ∈ ls, B256 l) (hlo : ∀ i, i < n → (ls.getD i []).length ≤ 3000) (w : World) (hA : Arg w KA la0 na0 ca) (hB : Arg w KB lb0 nb0 cb) (hR : PrtsN w w.heap.size A ls) (hS : Salts w) :
    Calls Tryd.prog 6 #[.slice KA na0 ca, .slice KB nb0 cb, .slice A n cap] w fun e w' => e = .returned (.bool true) ∧ Below w.heap.size w w' := by
  have SA := hid hS
  have WA := hid fun w => whole_any KA na0 ca hA.cap hA.max w
  have WB := hid fun w => whole_any KB nb0 cb hB.cap hB.max w
  have HL2 := hid (longB_no (k := 2) (N := fun i => if i = 0 then na0 else nb0) fun i _ => by show (if i = 0 then na0 else nb0) ≤ 3000; split <;> omega)
  have HLn := hid (longB_no (k := n) (N := fun i => (ls.getD i []).length) hlo)
  have hNi : ∀ i, (ls.getD i []).length ≤ 9223372036854775807 := fun i => by
    by_cases h : i < n
    · have := hlo i h; omega
    · rw [List.getD_eq_getElem?_getD, List.getElem?_eq_none (by omega)]; exact Nat.zero_le _
  have HNI := hid hNi
  obtain ⟨na, hna1⟩ : ∃ k, k = na0 / 64 * 64 := ⟨_, rfl⟩
  obtain ⟨nb, hnb1⟩ : ∃ k, k = nb0 / 64 * 64 := ⟨_, rfl⟩
  rw [← hna1] at WA
  rw [← hnb1] at WB
  have a1 : Arg w KA (la0.take na) na ca := ⟨by rw [List.length_take, hA.len]; omega, by have := hA.cap; omega, hA.max, hA.b256.take na, fun e => by have := hA.none e; omega, hA.byt.take na⟩
  have b1 : Arg w KB (lb0.take nb) nb cb := ⟨by rw [List.length_take, hB.len]; omega, by have := hB.cap; omega, hB.max, hB.b256.take nb, fun e => by have := hB.none e; omega, hB.byt.take nb⟩
  generalize la0.take na = la at *
  generalize lb0.take nb = lb at *
  have HA := hid a1
  have HB := hid b1
  have HR := hid hR
  have HLS := hid hls
  have HL := hid hl
  have HLO := hid hlo
  obtain ⟨N, hN⟩ : ∃ N, N = na + nb := ⟨_, rfl⟩
  have hN6 : N ≤ 6000 := by omega
  have ha64 : na % 64 = 0 := by omega
  have hb64 : nb % 64 = 0 := by omega
  have hna3 : na ≤ 3000 := by omega
  have hnb3 : nb ≤ 3000 := by omega
  have HN := hid hN
  have hbl : (la ++ lb).length = N := by rw [List.length_append, a1.len, b1.len, hN]
  have HBL := hid hbl
  have hB256 : B256 (la ++ lb) := a1.b256.append b1.b256
  have HB256 := hid hB256
  obtain ⟨s1, hs1⟩ : ∃ s, s = ShaM.passes ShaM.seeds la := ⟨_, rfl⟩
  obtain ⟨s2, hs2⟩ : ∃ s, s = ShaM.passes ShaM.seeds (la ++ lb) := ⟨_, rfl⟩
  have hs12 : ShaM.passes s1 lb = s2 := by rw [hs1, hs2, ShaM.passes_append (na / 64) (by rw [a1.len]; omega)]
  have ok1 : s1.ok := by rw [hs1]; exact ShaM.passes_ok _ (Nat.le_refl _) ShaM.seeds_ok
  have ok2 : s2.ok := by rw [hs2]; exact ShaM.passes_ok _ (Nat.le_refl _) ShaM.seeds_ok
  have hT2 : ∀ r : List Nat, ShaM.digest (ShaM.ended s2 N r) = ShaM.sum (la ++ lb ++ r) := fun r => by
    unfold ShaM.sum
    rw [ShaM.ended_append (n := N / 64) (by rw [hbl]; omega), hs2, hbl, Nat.zero_add]
  have hT1 : ∀ r : List Nat, ShaM.digest (ShaM.ended s1 na (lb ++ r)) = ShaM.sum (la ++ lb ++ r) := fun r => by
    have e := ShaM.ended_append (s := ShaM.seeds) (size := 0) (a := la) (r := lb ++ r) (n := na / 64) (by rw [a1.len]; omega)
    rw [← hs1, a1.len, Nat.zero_add] at e
    unfold ShaM.sum
    rw [List.append_assoc, e]
  have HS1 := hid hs1
  have HS2 := hid hs2
  have HS12 := hid hs12
  have OK1 := hid ok1
  have OK2 := hid ok2
  have HT1 := hid hT1
  have HT2 := hid hT2
  have hn20' : decide ((20 : Int) < (n : Int)) = false := decide_eq_false (by omega)
  clear hS hA hB hR hls hl hlo hNi a1 b1 hbl hB256 hs1 hs2 hs12 ok1 ok2 hT1 hT2 hna1 hnb1 hN
  go_enter Tryd.func6, Tryd.ntmps6
  go_wp2_with fail
  refine (long_any _ 2 2 (fun i => if i = 0 then na0 else nb0) (fun i => by show (if i = 0 then na0 else nb0) ≤ _; split <;> omega) (by omega) _ (by have h := slcs_two (w := w) (t := 22) (K := KA) (kn := na0) (kc := ca) (A := KB) (n := nb0) (c := cb); rw [show (w.alloc (.cells #[.slice KA na0 ca, .slice KB nb0 cb] 22)).heap.size = w.heap.size + 1 by simp]; exact h)).mono ?_
  rintro e w1 ⟨rfl, rfl⟩
  rw [HL2.out]
  have b1 : Below w.heap.size w (w.alloc (.cells #[.slice KA na0 ca, .slice KB nb0 cb] 22)) := (Below.refl _ _).alloc (Nat.le_refl _) _
  generalize hw1 : World.alloc w _ = w1 at *
  have B1 := hid b1
  clear b1 hw1 HL2
  go_wp2_with fail
  refine (long_any A n cap (fun i => (ls.getD i []).length) HNI.out (by omega) w1 (((HR.out.below B1.out (Nat.le_refl _)).more B1.out.size).slcs HL.out)).mono ?_
  rintro e w' ⟨rfl, rfl⟩
  rw [HLn.out]
  clear HLn HNI
  go_wp2_with fail
  refine (WA.out w1).mono ?_
  rintro e w' ⟨rfl, rfl⟩
  go_wp2_with fail
  refine (WB.out w1).mono ?_
  rintro e w' ⟨rfl, rfl⟩
  clear WA WB hn20'
  have K1 := hid (HA.out.on B1.out)
  go_wp2_with fail
  refine (ahead_ok KA la na ca K1.out.len ha64 K1.out.cap K1.out.max (by omega) K1.out.b256 w1 K1.out.byt (SA.out.on B1.out)).mono ?_
  rintro e w2 ⟨rfl, h2⟩
  rw [← HS1.out]
  have B2 := hid (B1.out.trans (h2.mono B1.out.size))
  have hz2 := B2.out.size
  clear h2 B1 K1
  go_upto_region 5 with ((with_reducible apply stp); rfl; rfl; exact Blk.top zlit_pre rfl)
  generalize hw3 : World.setRow _ _ _ = w3
  obtain ⟨g7, hg7⟩ : ∃ g, g = w2.heap.size := ⟨_, rfl⟩
  have c3 : Blk w3 g7 29 (pre s1.get na true) := by rw [← hw3, hg7]; exact (Blk.top zlit_pre rfl).setRow_same _
  have b23 : Below w2.heap.size w2 w3 := by rw [← hw3]; exact below_setRow ((Below.refl _ _).alloc (Nat.le_refl _) _) (Nat.le_refl _) _
  rw [← hg7]
  have B3 := hid (B2.out.trans (b23.mono hz2))
  have C7 := hid c3
  clear hw3 hg7 c3 b23 B2 hz2
  clear w2 w1
  have KA3 := hid (HA.out.on B3.out)
  have KB3 := hid (HB.out.on B3.out)
  go_upto_region 6 with (first
    | (at_builtin; (with_reducible apply wappN_any eltU); rfl; rfl; exact KA3.out.none; exact Own.empty w3 (Nat.le_refl _); exact ((KA3.out.byt.below ((Below.refl w3.heap.size w3).alloc (Nat.le_refl _) _) (Nat.le_refl _))).nums; exact KA3.out.len; (rw [List.length_nil]; omega); (simp); intro v4 w4 o4 g4; have b4 := below_grown ((Below.refl w3.heap.size w3).alloc (Nat.le_refl _) (.cells #[] 5)) g4 (Own.empty (e := 5) (k := .u8) w3 (Nat.le_refl _)) (Nat.le_refl _) (Nat.le_refl _); have O4 := hid o4; have B4 := hid b4; clear o4 b4 g4)
    | (at_builtin; (with_reducible apply wappN_any eltU); rfl; rfl; exact KB3.out.none; exact O4.out; exact (KB3.out.on B4.out).byt.nums; exact KB3.out.len; (rw [List.nil_append, KA3.out.len]; omega); exact B4.out.size; intro v5 w5 o5 g5; have b5 := below_grown B4.out g5 O4.out (Nat.le_refl _) (Nat.le_refl _); have O5 := hid o5; have B5 := hid b5; clear o5 b5 g5))
  have o5 := O5.out
  rw [List.nil_append] at o5
  obtain ⟨Ab, cb2, e5, a5⟩ := o5.arg HB256.out
  rw [HBL.out] at e5 a5
  subst e5
  have AB5 := hid a5
  have BW5 := hid (B3.out.trans (B5.out.mono B3.out.size))
  have C75 := hid (C7.out.below B5.out C7.out.lt)
  clear o5 a5 O4 O5 B4 B5 B3 C7 KA3 KB3
  go_wp2_with fail
  refine (ahead_ok Ab (la ++ lb) N cb2 AB5.out.len (by have := HN.out; omega) AB5.out.cap AB5.out.max (by omega) AB5.out.b256 w5 AB5.out.byt (SA.out.on BW5.out)).mono ?_
  rintro e w6 ⟨rfl, h6⟩
  rw [← HS2.out]
  have B6 := hid (BW5.out.trans (h6.mono BW5.out.size))
  have C76 := hid (C75.out.below h6 C75.out.lt)
  have AB6 := hid (AB5.out.on h6)
  have hz6 := B6.out.size
  clear h6 BW5 C75 AB5
  go_upto_region 7 with ((with_reducible apply stp); rfl; rfl; exact Blk.top zlit_pre rfl)
  generalize hw7 : World.setRow _ _ _ = w7
  obtain ⟨g10, hg10⟩ : ∃ g, g = w6.heap.size := ⟨_, rfl⟩
  have c7 : Blk w7 g10 29 (pre s2.get N true) := by rw [← hw7, hg10]; exact (Blk.top zlit_pre rfl).setRow_same _
  have b67 : Below w6.heap.size w6 w7 := by rw [← hw7]; exact below_setRow ((Below.refl _ _).alloc (Nat.le_refl _) _) (Nat.le_refl _) _
  rw [← hg10]
  have B7 := hid (B6.out.trans (b67.mono hz6))
  have P7 := hid (C76.out.below b67 C76.out.lt)
  have Q7 := hid c7
  have AB7 := hid (AB6.out.on b67)
  have LB7 := hid (HB.out.on B7.out)
  have R7 := hid ((HR.out.below B7.out (Nat.le_refl _)).more B7.out.size)
  clear hw7 hg10 c7 b67 B6 C76 AB6 hz6 HA HB HR
  generalize w3.heap.size = x3
  clear w6 w5 w4 w3
  go_wp2_with fail
  go_loopw [12] (fun v wr => ∃ j : Nat, j ≤ 2 ∧ v = .int .i64 j ∧ Hid (Below w7.heap.size w7 wr)) (fun v _ => 2 - (intOf v).toNat)
  case atStart => exact ⟨0, by omega, rfl, hid (Below.refl _ _)⟩
  case round =>
    obtain ⟨j, hj, rfl, hb⟩ := hrel
    have BW := hid (B7.out.trans (hb.out.mono B7.out.size))
    by_cases hlt : j < 2
    · have tj : (j : Int) < 2 := by omega
      have LBr := hid (LB7.out.on hb.out)
      have pr := P7.out.below hb.out P7.out.lt
      go_wp2_with ((with_reducible apply ldp); rfl; exact pr)
      clear pr
      refine (more_ok s1 OK1.out KB lb nb cb na LBr.out.len hb64 LBr.out.cap LBr.out.max (by omega) LBr.out.b256 wr LBr.out.byt (SA.out.on BW.out)).mono ?_
      rintro e w8 ⟨rfl, h8⟩
      rw [HS12.out, ← HN.out]
      have H8 := hid (hb.out.trans (h8.mono hb.out.size))
      have hz8 := H8.out.size
      clear h8 LBr
      go_upto_region 13 with ((with_reducible apply stp); rfl; rfl; exact Blk.top zlit_pre rfl)
      generalize hw9 : World.setRow _ _ _ = w9
      obtain ⟨g13, hg13⟩ : ∃ g, g = w8.heap.size := ⟨_, rfl⟩
      have c9 : Blk w9 g13 29 (pre s2.get N true) := by rw [← hw9, hg13]; exact (Blk.top zlit_pre rfl).setRow_same _
      have b89 : Below w8.heap.size w8 w9 := by rw [← hw9]; exact below_setRow ((Below.refl _ _).alloc (Nat.le_refl _) _) (Nat.le_refl _) _
      rw [← hg13]
      have H9 := hid (H8.out.trans (b89.mono hz8))
      have R9 := hid c9
      have Q9 := hid (Q7.out.below H9.out Q7.out.lt)
      clear hw9 hg13 c9 b89 H8 hz8 BW hb
      refine wp_region_tail (C := fun w' => Below w9.heap.size w9 w') 16 (by kernel_rfl) (by kernel_rfl) (by kernel_rfl) (Below.refl _ _).drew ?_
      simp only [List.take_succ_cons, List.take_zero, List.drop_succ_cons, List.drop_zero]
      apply wpK_val
      · rfl
      · intro w' hw'
        go_simp
        first | exact rfl | exact ⟨rfl, hw'⟩
      simp only [Act.put, List.setIfInBounds_toArray, List.set_cons_succ, List.set_cons_zero]
      apply wpK_val
      · rfl
      · intro w' hw'
        go_simp
        first | exact rfl | exact ⟨rfl, hw'⟩
      simp only [Act.put, List.setIfInBounds_toArray, List.set_cons_succ, List.set_cons_zero]
      apply wpK_val
      · rfl
      · intro w' hw'
        go_simp
        first | exact rfl | exact ⟨rfl, hw'⟩
      simp only [Act.put, List.setIfInBounds_toArray, List.set_cons_succ, List.set_cons_zero]
      apply klpw
      · rfl
      · rfl
      · exact fun w' hw' => R9.out.below hw' R9.out.lt
      simp only [Act.put, List.setIfInBounds_toArray, List.set_cons_succ, List.set_cons_zero]
      apply wpK_val
      · rfl
      · intro w' hw'
        go_simp
        exact (size_any _ _ _ _).mono fun e w'' ⟨he, hb''⟩ => ⟨he, hw'.trans (hb''.mono hw'.size)⟩
      simp only [Act.put, List.setIfInBounds_toArray, List.set_cons_succ, List.set_cons_zero]
      apply wpK_val
      · rfl
      · intro w' hw'
        go_simp
        first | exact rfl | exact ⟨rfl, hw'⟩
      simp only [Act.put, List.setIfInBounds_toArray, List.set_cons_succ, List.set_cons_zero]
      apply wpK_val
      · rfl
      · intro w' hw'
        go_simp
        first | exact rfl | exact ⟨rfl, hw'⟩
      simp only [Act.put, List.setIfInBounds_toArray, List.set_cons_succ, List.set_cons_zero]
      apply wpK_val
      · rfl
      · intro w' hw'
        go_simp
        first | exact rfl | exact ⟨rfl, hw'⟩
      simp only [Act.put, List.setIfInBounds_toArray, List.set_cons_succ, List.set_cons_zero]
      apply wpK_val
      · rfl
      · intro w' hw'
        go_simp
        first | exact rfl | exact ⟨rfl, hw'⟩
      simp only [Act.put, List.setIfInBounds_toArray, List.set_cons_succ, List.set_cons_zero]
      apply wpK_val
      · rfl
      · intro w' hw'
        go_simp
        first | exact rfl | exact ⟨rfl, hw'⟩
      simp only [Act.put, List.setIfInBounds_toArray, List.set_cons_succ, List.set_cons_zero]
      apply klpw
      · rfl
      · rfl
      · exact fun w' hw' => R9.out.below hw' R9.out.lt
      simp only [Act.put, List.setIfInBounds_toArray, List.set_cons_succ, List.set_cons_zero]
      apply wpK_val
      · rfl
      · intro w' hw'
        go_simp
        exact (size_any _ _ _ _).mono fun e w'' ⟨he, hb''⟩ => ⟨he, hw'.trans (hb''.mono hw'.size)⟩
      simp only [Act.put, List.setIfInBounds_toArray, List.set_cons_succ, List.set_cons_zero]
      apply klpw
      · rfl
      · rfl
      · exact fun w' hw' => Q9.out.below hw' Q9.out.lt
      simp only [Act.put, List.setIfInBounds_toArray, List.set_cons_succ, List.set_cons_zero]
      apply wpK_val
      · rfl
      · intro w' hw'
        go_simp
        exact (size_any _ _ _ _).mono fun e w'' ⟨he, hb''⟩ => ⟨he, hw'.trans (hb''.mono hw'.size)⟩
      simp only [Act.put, List.setIfInBounds_toArray, List.set_cons_succ, List.set_cons_zero]
      apply wpK_val
      · rfl
      · intro w' hw'
        go_simp
        first | exact rfl | exact ⟨rfl, hw'⟩
      simp only [Act.put, List.setIfInBounds_toArray, List.set_cons_succ, List.set_cons_zero]
      apply wpK_val
      · rfl
      · intro w' hw'
        go_simp
        first | exact rfl | exact ⟨rfl, hw'⟩
      simp only [Act.put, List.setIfInBounds_toArray, List.set_cons_succ, List.set_cons_zero]
      refine wpK_nil fun wa hwa => ?_
      have HA' := hid (H9.out.trans (hwa.mono H9.out.size))
      have RA := hid (R9.out.below hwa R9.out.lt)
      clear hwa H9 R9 Q9
      go_wp2_with fail
      go_loopw [15] (fun v wr => ∃ i : Nat, i ≤ n ∧ v = .int .i64 i ∧ Hid (Below wa.heap.size wa wr)) (fun v _ => n - (intOf v).toNat)
      case atStart => exact ⟨0, by omega, rfl, hid (Below.refl _ _)⟩
      case round =>
        obtain ⟨i, hi, rfl, hb⟩ := hrel
        have HX := hid (HA'.out.trans (hb.out.mono HA'.out.size))
        by_cases hin : i < n
        · have ti : (i : Int) < (n : Int) := by omega
          obtain ⟨bx, ox, rfl, hbx, hrx⟩ := R7.out (by rw [HL.out]; omega)
          obtain ⟨Ar, cr, q1, q2, q3, q4, q5⟩ := hrx i (by rw [HL.out]; exact hin)
          have hr3 := HLO.out i hin
          have hr256 : B256 (ls.getD i []) := by
            rw [List.getD_eq_getElem?_getD, List.getElem?_eq_getElem (by rw [HL.out]; exact hin)]
            exact HLS.out _ (List.getElem_mem _)
          obtain ⟨r, hr⟩ : ∃ r, r = ls.getD i [] := ⟨_, rfl⟩
          rw [← hr] at q1 q2 q4 q5 hr3 hr256
          obtain ⟨m, hm⟩ : ∃ m, m = r.length := ⟨_, rfl⟩
          rw [← hm] at q1 q2 q5 hr3
          have AR := hid (show Arg wr Ar r m cr from ⟨hm.symm, q2, q3, hr256, q5, (q4.below HX.out (Nat.le_refl _)).more HX.out.size⟩)
          have CX := hid ((HX.out.cell (p := ⟨bx, ox + i, none⟩) hbx).trans q1)
          have hbr : bx < wr.heap.size := Nat.lt_of_lt_of_le hbx HX.out.size
          have ABr := hid (AB7.out.on HX.out)
          have LBr := hid (LB7.out.on HX.out)
          have Pr := hid (P7.out.below HX.out P7.out.lt)
          have Qr := hid (Q7.out.below HX.out Q7.out.lt)
          have Rr := hid (RA.out.below hb.out RA.out.lt)
          have BWr := hid (B7.out.trans (HX.out.mono B7.out.size))
          obtain ⟨T, hT⟩ : ∃ T, T = ShaM.sum (la ++ lb ++ r) := ⟨_, rfl⟩
          have T1 := hid ((HT1.out r).trans hT.symm)
          have T2 := hid ((HT2.out r).trans hT.symm)
          have HT := hid hT
          have hal : (la ++ lb ++ r).length = N + m := by rw [List.length_append, HBL.out, hm]
          have hbl2 : (lb ++ r).length = nb + m := by rw [List.length_append, LBr.out.len, hm]
          have HAL := hid hal
          have HBL2 := hid hbl2
          have H256 := hid (HB256.out.append hr256)
          have HB2256 := hid (LBr.out.b256.append hr256)
          have hcx := hbx
          clear hrx q1 q2 q3 q4 q5 hr hm hT hal hbl2 hr256 hcx
          go_wp2_with fail
          refine wp_region_rel2 (S := xS [none, some (.slice Ab N cb2), none, some (.slice (some ⟨bx, ox, none⟩) n cap), some (.int .i64 i), some (.pointer (some ⟨bx, ox + i, none⟩)), some (.slice Ar m cr), none, some (.agg (tag T)), none]) (D := xD 0 2 7 9 wr.heap.size (la ++ lb) (la ++ lb ++ r)) (K := xK 0 2 7 9 _ wr.heap.size (la ++ lb) (la ++ lb ++ r)) (C := fun w' => Below wr.heap.size wr w') 10 (by kernel_rfl) (by kernel_rfl) (by kernel_rfl)
            _ (xS_ok _) (fun i j vs w w' _ hji hwt h hb => hb j hji hwt h) (fun j i vs v w hji _ h => xD_loc hji h) (Below.refl _ _).drew fun vs => ?_
          simp only [List.take_succ_cons, List.take_zero, List.drop_succ_cons, List.drop_zero]
          refine ⟨.inl ⟨rfl, fun w' hC hDs => ⟨.slice (some ⟨w'.heap.size, 0, none⟩) 0 0, trivial, ?_⟩⟩, fun _ => ?_⟩
          · go_simp
            have hb : Below w'.heap.size w' (w'.alloc (.cells #[] 5)) := (Below.refl _ _).alloc (Nat.le_refl _) _
            exact ⟨hC.trans (hb.mono hC.size), xK_below hb, fun _ => by rw [updV_self]; exact Own.empty w' hC.size, fun e => absurd e (by decide), fun e => absurd e (by decide), fun e => absurd e (by decide)⟩
          simp only [Act.put, List.setIfInBounds_toArray, List.set_cons_succ, List.set_cons_zero]
          refine ⟨.inl ⟨rfl, fun w' hC hDs => ⟨_, rfl, ?_⟩⟩, fun e => ?_⟩
          · go_simp
            first | exact ⟨rfl, hC, xK_below (Below.refl _ _), xD_none (by decide) (by decide) (by decide) (by decide)⟩ | exact ⟨hC, xK_below (Below.refl _ _), xD_none (by decide) (by decide) (by decide) (by decide)⟩ | exact ⟨rfl, xK_below (Below.refl _ _), xD_none (by decide) (by decide) (by decide) (by decide)⟩ | exact ⟨xK_below (Below.refl _ _), xD_none (by decide) (by decide) (by decide) (by decide)⟩
          have e' : vs 1 = _ := e
          rw [e']
          clear e e'
          simp only [Act.put, List.setIfInBounds_toArray, List.set_cons_succ, List.set_cons_zero]
          refine ⟨.inl ⟨rfl, fun w' hC hDs => ?_⟩, fun _ => ?_⟩
          · have d : Own 5 .u8 w' wr.heap.size (vs 0) [] := (hDs 0 (by kernel_rfl)).1 rfl
            have ar := ABr.out.on hC
            refine gives_appS eltU rfl rfl ar.none d ar.byt.nums ar.len (by rw [List.length_nil]; omega) hC.size fun v' w'' o1 o2 gr => ?_
            have hb := below_grown hC gr d (Nat.le_refl _) (Nat.le_refl _)
            exact ⟨trivial, hb, xK_app d gr o2 (fun h => absurd rfl h) (fun _ h => False.elim (Bool.false_ne_true (h.symm.trans (by kernel_rfl)))), fun e => absurd e (by decide), fun _ => by rw [updV_self]; exact o1, fun e => absurd e (by decide), fun e => absurd e (by decide)⟩
          simp only [Act.put, List.setIfInBounds_toArray, List.set_cons_succ, List.set_cons_zero]
          refine ⟨.inl ⟨rfl, fun w' hC hDs => ⟨_, rfl, ?_⟩⟩, fun e => ?_⟩
          · go_simp
            first | exact ⟨rfl, hC, xK_below (Below.refl _ _), xD_none (by decide) (by decide) (by decide) (by decide)⟩ | exact ⟨hC, xK_below (Below.refl _ _), xD_none (by decide) (by decide) (by decide) (by decide)⟩ | exact ⟨rfl, xK_below (Below.refl _ _), xD_none (by decide) (by decide) (by decide) (by decide)⟩ | exact ⟨xK_below (Below.refl _ _), xD_none (by decide) (by decide) (by decide) (by decide)⟩
          have e' : vs 3 = _ := e
          rw [e']
          clear e e'
          simp only [Act.put, List.setIfInBounds_toArray, List.set_cons_succ, List.set_cons_zero]
          refine ⟨.inl ⟨rfl, fun w' hC hDs => ⟨_, rfl, ?_⟩⟩, fun e => ?_⟩
          · go_simp
            first | exact ⟨rfl, hC, xK_below (Below.refl _ _), xD_none (by decide) (by decide) (by decide) (by decide)⟩ | exact ⟨hC, xK_below (Below.refl _ _), xD_none (by decide) (by decide) (by decide) (by decide)⟩ | exact ⟨rfl, xK_below (Below.refl _ _), xD_none (by decide) (by decide) (by decide) (by decide)⟩ | exact ⟨xK_below (Below.refl _ _), xD_none (by decide) (by decide) (by decide) (by decide)⟩
          have e' : vs 4 = _ := e
          rw [e']
          clear e e'
          simp only [Act.put, List.setIfInBounds_toArray, List.set_cons_succ, List.set_cons_zero]
          refine ⟨.inl ⟨rfl, fun w' hC hDs => ⟨_, rfl, ?_⟩⟩, fun e => ?_⟩
          · go_simp
            first | exact ⟨rfl, hC, xK_below (Below.refl _ _), xD_none (by decide) (by decide) (by decide) (by decide)⟩ | exact ⟨hC, xK_below (Below.refl _ _), xD_none (by decide) (by decide) (by decide) (by decide)⟩ | exact ⟨rfl, xK_below (Below.refl _ _), xD_none (by decide) (by decide) (by decide) (by decide)⟩ | exact ⟨xK_below (Below.refl _ _), xD_none (by decide) (by decide) (by decide) (by decide)⟩
          have e' : vs 5 = _ := e
          rw [e']
          clear e e'
          simp only [Act.put, List.setIfInBounds_toArray, List.set_cons_succ, List.set_cons_zero]
          refine ⟨.inl ⟨rfl, fun w' hC hDs => ⟨_, rfl, ?_⟩⟩, fun e => ?_⟩
          · have hcell := (hC.cell (p := ⟨bx, ox + i, none⟩) hbr).trans CX.out
            go_simp
            first | exact ⟨rfl, hC, xK_below (Below.refl _ _), xD_none (by decide) (by decide) (by decide) (by decide)⟩ | exact ⟨hC, xK_below (Below.refl _ _), xD_none (by decide) (by decide) (by decide) (by decide)⟩ | exact ⟨rfl, xK_below (Below.refl _ _), xD_none (by decide) (by decide) (by decide) (by decide)⟩ | exact ⟨xK_below (Below.refl _ _), xD_none (by decide) (by decide) (by decide) (by decide)⟩
          have e' : vs 6 = _ := e
          rw [e']
          clear e e'
          simp only [Act.put, List.setIfInBounds_toArray, List.set_cons_succ, List.set_cons_zero]
          refine ⟨.inl ⟨rfl, fun w' hC hDs => ?_⟩, fun _ => ?_⟩
          · have d : Own 5 .u8 w' wr.heap.size (vs 2) (la ++ lb) := (hDs 2 (by kernel_rfl)).2.1 rfl
            have ar := AR.out.on hC
            refine gives_appS eltU rfl rfl ar.none d ar.byt.nums ar.len (by rw [HBL.out]; omega) hC.size fun v' w'' o1 o2 gr => ?_
            have hb := below_grown hC gr d (Nat.le_refl _) (Nat.le_refl _)
            exact ⟨trivial, hb, xK_app d gr o2 (fun _ _ => Nat.le_refl _) (fun h => absurd rfl h), fun e => absurd e (by decide), fun e => absurd e (by decide), fun _ => by rw [updV_self]; exact o1, fun e => absurd e (by decide)⟩
          simp only [Act.put, List.setIfInBounds_toArray, List.set_cons_succ, List.set_cons_zero]
          refine ⟨.inl ⟨rfl, fun w' hC hDs => ⟨_, rfl, ?_⟩⟩, fun e => ?_⟩
          · have d : Own 5 .u8 w' wr.heap.size (vs 7) (la ++ lb ++ r) := (hDs 7 (by kernel_rfl)).2.2.1 rfl
            obtain ⟨A', c', e7, a7⟩ := d.arg H256.out
            rw [HAL.out] at e7 a7
            go_simp
            refine (sum_any A' (la ++ lb ++ r) (N + m) c' a7.len a7.cap a7.max (by omega) a7.b256 w' a7.byt (SA.out.on (BWr.out.trans (hC.mono BWr.out.size)))).mono fun e w'' ⟨he, hb⟩ => ⟨by rw [HT.out]; exact he, hC.trans (hb.mono hC.size), xK_below hb, xD_none (by decide) (by decide) (by decide) (by decide)⟩
          have e' : vs 8 = _ := e
          rw [e']
          clear e e'
          simp only [Act.put, List.setIfInBounds_toArray, List.set_cons_succ, List.set_cons_zero]
          refine ⟨.inl ⟨rfl, fun w' hC hDs => ⟨.pointer (some ⟨w'.heap.size, 0, none⟩), trivial, ?_⟩⟩, fun _ => ?_⟩
          · have hb : Below w'.heap.size w' (w'.alloc (.cells (tag fun _ => 0) 34)) := (Below.refl _ _).alloc (Nat.le_refl _) _
            refine gives_value (w' := w'.alloc (.cells (tag fun _ => 0) 34)) (by simp only [execOp, Sem.run_bind, alloc_tagU w', Result.andThen_ok, Sem.run_pure]) ⟨hC.trans (hb.mono hC.size), xK_below hb, fun e => absurd e (by decide), fun e => absurd e (by decide), fun e => absurd e (by decide), fun _ => ⟨w'.heap.size, by rw [updV_self], Blk.top rfl rfl, hC.size⟩⟩
          simp only [Act.put, List.setIfInBounds_toArray, List.set_cons_succ, List.set_cons_zero]
          intro wb hC hDs
          obtain ⟨g16, e16, d16, hg16⟩ := (hDs 9 (by omega)).2.2.2 rfl
          rw [e16]
          clear hDs e16
          go_upto_region 19 with ((with_reducible apply stt); rfl; rfl; exact d16)
          generalize hwc : World.setRow _ _ _ = wc
          have t16 : Blk wc g16 34 (tag T) := by rw [← hwc]; exact d16.setRow_same _
          have bc : Below wr.heap.size wr wc := by rw [← hwc]; exact below_setRow hC hg16 _
          have T16 := hid t16
          have BC := hid bc
          have ARc := hid (AR.out.on bc)
          have LBc := hid (LBr.out.on bc)
          have Pc := hid (Pr.out.below bc Pr.out.lt)
          have Qc := hid (Qr.out.below bc Qr.out.lt)
          have Rc := hid (Rr.out.below bc Rr.out.lt)
          have CXc := hid ((bc.cell (p := ⟨bx, ox + i, none⟩) hbr).trans CX.out)
          have hbrc : bx < wc.heap.size := Nat.lt_of_lt_of_le hbr bc.size
          have BWc := hid (BWr.out.trans (bc.mono BWr.out.size))
          have HXc := hid (hb.out.trans (bc.mono hb.out.size))
          clear hwc d16 hg16 t16 bc hC AR LBr Pr Qr Rr CX ABr BWr hbr hb
          refine wp_region_rel2 (S := xS [some (.agg (pre s2.get N true)), some (.slice (some ⟨bx, ox, none⟩) n cap), some (.int .i64 i), some (.pointer (some ⟨bx, ox + i, none⟩)), some (.slice Ar m cr), some (.agg (tag T)), some (.agg (tag T)), some (.bool false), some (.bool false), some (.agg (pre s2.get N true)), some (.slice (some ⟨bx, ox, none⟩) n cap), some (.int .i64 i), some (.pointer (some ⟨bx, ox + i, none⟩)), some (.slice Ar m cr), some (.agg (tag T)), some (.agg (tag T)), some (.bool false), some (.bool false), some (.bool false), some (.agg (pre s1.get na true)), none, some (.slice KB nb cb), none, some (.slice (some ⟨bx, ox, none⟩) n cap), some (.int .i64 i), some (.pointer (some ⟨bx, ox + i, none⟩)), some (.slice Ar m cr), none, some (.agg (tag T)), some (.agg (tag T)), some (.bool false), some (.bool false)]) (D := xD 20 22 27 100 wc.heap.size lb (lb ++ r)) (K := xK 20 22 27 100 _ wc.heap.size lb (lb ++ r)) (C := fun w' => Below wc.heap.size wc w') 32 (by kernel_rfl) (by kernel_rfl) (by kernel_rfl)
            _ (xS_ok _) (fun i j vs w w' _ hji hwt h hb => hb j hji hwt h) (fun j i vs v w hji _ h => xD_loc hji h) (Below.refl _ _).drew fun vs => ?_
          simp only [List.take_succ_cons, List.take_zero, List.drop_succ_cons, List.drop_zero]
          refine ⟨.inl ⟨rfl, fun w' hC hDs => ⟨_, rfl, ?_⟩⟩, fun e => ?_⟩
          · exact gives_ldpo rfl (Rc.out.below hC Rc.out.lt) ⟨hC, xK_below (Below.refl _ _), xD_none (by decide) (by decide) (by decide) (by decide)⟩
          have e' : vs 0 = _ := e
          rw [e']
          clear e e'
          simp only [Act.put, List.setIfInBounds_toArray, List.set_cons_succ, List.set_cons_zero]
          refine ⟨.inl ⟨rfl, fun w' hC hDs => ⟨_, rfl, ?_⟩⟩, fun e => ?_⟩
          · go_simp
            first | exact ⟨rfl, hC, xK_below (Below.refl _ _), xD_none (by decide) (by decide) (by decide) (by decide)⟩ | exact ⟨hC, xK_below (Below.refl _ _), xD_none (by decide) (by decide) (by decide) (by decide)⟩ | exact ⟨rfl, xK_below (Below.refl _ _), xD_none (by decide) (by decide) (by decide) (by decide)⟩ | exact ⟨xK_below (Below.refl _ _), xD_none (by decide) (by decide) (by decide) (by decide)⟩
          have e' : vs 1 = _ := e
          rw [e']
          clear e e'
          simp only [Act.put, List.setIfInBounds_toArray, List.set_cons_succ, List.set_cons_zero]
          refine ⟨.inl ⟨rfl, fun w' hC hDs => ⟨_, rfl, ?_⟩⟩, fun e => ?_⟩
          · go_simp
            first | exact ⟨rfl, hC, xK_below (Below.refl _ _), xD_none (by decide) (by decide) (by decide) (by decide)⟩ | exact ⟨hC, xK_below (Below.refl _ _), xD_none (by decide) (by decide) (by decide) (by decide)⟩ | exact ⟨rfl, xK_below (Below.refl _ _), xD_none (by decide) (by decide) (by decide) (by decide)⟩ | exact ⟨xK_below (Below.refl _ _), xD_none (by decide) (by decide) (by decide) (by decide)⟩
          have e' : vs 2 = _ := e
          rw [e']
          clear e e'
          simp only [Act.put, List.setIfInBounds_toArray, List.set_cons_succ, List.set_cons_zero]
          refine ⟨.inl ⟨rfl, fun w' hC hDs => ⟨_, rfl, ?_⟩⟩, fun e => ?_⟩
          · go_simp
            first | exact ⟨rfl, hC, xK_below (Below.refl _ _), xD_none (by decide) (by decide) (by decide) (by decide)⟩ | exact ⟨hC, xK_below (Below.refl _ _), xD_none (by decide) (by decide) (by decide) (by decide)⟩ | exact ⟨rfl, xK_below (Below.refl _ _), xD_none (by decide) (by decide) (by decide) (by decide)⟩ | exact ⟨xK_below (Below.refl _ _), xD_none (by decide) (by decide) (by decide) (by decide)⟩
          have e' : vs 3 = _ := e
          rw [e']
          clear e e'
          simp only [Act.put, List.setIfInBounds_toArray, List.set_cons_succ, List.set_cons_zero]
          refine ⟨.inl ⟨rfl, fun w' hC hDs => ⟨_, rfl, ?_⟩⟩, fun e => ?_⟩
          · have hcell := (hC.cell (p := ⟨bx, ox + i, none⟩) hbrc).trans CXc.out
            go_simp
            first | exact ⟨rfl, hC, xK_below (Below.refl _ _), xD_none (by decide) (by decide) (by decide) (by decide)⟩ | exact ⟨hC, xK_below (Below.refl _ _), xD_none (by decide) (by decide) (by decide) (by decide)⟩ | exact ⟨rfl, xK_below (Below.refl _ _), xD_none (by decide) (by decide) (by decide) (by decide)⟩ | exact ⟨xK_below (Below.refl _ _), xD_none (by decide) (by decide) (by decide) (by decide)⟩
          have e' : vs 4 = _ := e
          rw [e']
          clear e e'
          simp only [Act.put, List.setIfInBounds_toArray, List.set_cons_succ, List.set_cons_zero]
          refine ⟨.inl ⟨rfl, fun w' hC hDs => ⟨_, rfl, ?_⟩⟩, fun e => ?_⟩
          · have a5 := ARc.out.on hC
            go_simp
            refine (psum_ok s2 OK2.out _ r m _ N a5.len (by have := HN.out; omega) a5.cap a5.max (by omega) a5.b256 w' a5.byt (SA.out.on (BWc.out.trans (hC.mono BWc.out.size)))).mono fun e w'' ⟨he, hb⟩ => ⟨by rw [← T2.out]; exact he, hC.trans (hb.mono hC.size), xK_below hb, xD_none (by decide) (by decide) (by decide) (by decide)⟩
          have e' : vs 5 = _ := e
          rw [e']
          clear e e'
          simp only [Act.put, List.setIfInBounds_toArray, List.set_cons_succ, List.set_cons_zero]
          refine ⟨.inl ⟨rfl, fun w' hC hDs => ⟨_, rfl, ?_⟩⟩, fun e => ?_⟩
          · exact gives_ldto rfl (T16.out.below hC T16.out.lt) ⟨hC, xK_below (Below.refl _ _), xD_none (by decide) (by decide) (by decide) (by decide)⟩
          have e' : vs 6 = _ := e
          rw [e']
          clear e e'
          simp only [Act.put, List.setIfInBounds_toArray, List.set_cons_succ, List.set_cons_zero]
          refine ⟨.inl ⟨rfl, fun w' hC hDs => ⟨_, rfl, ?_⟩⟩, fun e => ?_⟩
          · have h1 := eq_tag_self T w'
            have h2 := eqg_tag
            go_simp
            first | exact ⟨rfl, hC, xK_below (Below.refl _ _), xD_none (by decide) (by decide) (by decide) (by decide)⟩ | exact ⟨hC, xK_below (Below.refl _ _), xD_none (by decide) (by decide) (by decide) (by decide)⟩ | exact ⟨rfl, xK_below (Below.refl _ _), xD_none (by decide) (by decide) (by decide) (by decide)⟩ | exact ⟨xK_below (Below.refl _ _), xD_none (by decide) (by decide) (by decide) (by decide)⟩
          have e' : vs 7 = _ := e
          rw [e']
          clear e e'
          simp only [Act.put, List.setIfInBounds_toArray, List.set_cons_succ, List.set_cons_zero]
          refine ⟨.inl ⟨rfl, fun w' hC hDs => ⟨_, rfl, ?_⟩⟩, fun e => ?_⟩
          · go_simp
            first | exact ⟨rfl, hC, xK_below (Below.refl _ _), xD_none (by decide) (by decide) (by decide) (by decide)⟩ | exact ⟨hC, xK_below (Below.refl _ _), xD_none (by decide) (by decide) (by decide) (by decide)⟩ | exact ⟨rfl, xK_below (Below.refl _ _), xD_none (by decide) (by decide) (by decide) (by decide)⟩ | exact ⟨xK_below (Below.refl _ _), xD_none (by decide) (by decide) (by decide) (by decide)⟩
          have e' : vs 8 = _ := e
          rw [e']
          clear e e'
          simp only [Act.put, List.setIfInBounds_toArray, List.set_cons_succ, List.set_cons_zero]
          refine ⟨.inl ⟨rfl, fun w' hC hDs => ⟨_, rfl, ?_⟩⟩, fun e => ?_⟩
          · exact gives_ldpo rfl (Qc.out.below hC Qc.out.lt) ⟨hC, xK_below (Below.refl _ _), xD_none (by decide) (by decide) (by decide) (by decide)⟩
          have e' : vs 9 = _ := e
          rw [e']
          clear e e'
          simp only [Act.put, List.setIfInBounds_toArray, List.set_cons_succ, List.set_cons_zero]
          refine ⟨.inl ⟨rfl, fun w' hC hDs => ⟨_, rfl, ?_⟩⟩, fun e => ?_⟩
          · go_simp
            first | exact ⟨rfl, hC, xK_below (Below.refl _ _), xD_none (by decide) (by decide) (by decide) (by decide)⟩ | exact ⟨hC, xK_below (Below.refl _ _), xD_none (by decide) (by decide) (by decide) (by decide)⟩ | exact ⟨rfl, xK_below (Below.refl _ _), xD_none (by decide) (by decide) (by decide) (by decide)⟩ | exact ⟨xK_below (Below.refl _ _), xD_none (by decide) (by decide) (by decide) (by decide)⟩
          have e' : vs 10 = _ := e
          rw [e']
          clear e e'
          simp only [Act.put, List.setIfInBounds_toArray, List.set_cons_succ, List.set_cons_zero]
          refine ⟨.inl ⟨rfl, fun w' hC hDs => ⟨_, rfl, ?_⟩⟩, fun e => ?_⟩
          · go_simp
            first | exact ⟨rfl, hC, xK_below (Below.refl _ _), xD_none (by decide) (by decide) (by decide) (by decide)⟩ | exact ⟨hC, xK_below (Below.refl _ _), xD_none (by decide) (by decide) (by decide) (by decide)⟩ | exact ⟨rfl, xK_below (Below.refl _ _), xD_none (by decide) (by decide) (by decide) (by decide)⟩ | exact ⟨xK_below (Below.refl _ _), xD_none (by decide) (by decide) (by decide) (by decide)⟩
          have e' : vs 11 = _ := e
          rw [e']
          clear e e'
          simp only [Act.put, List.setIfInBounds_toArray, List.set_cons_succ, List.set_cons_zero]
          refine ⟨.inl ⟨rfl, fun w' hC hDs => ⟨_, rfl, ?_⟩⟩, fun e => ?_⟩
          · go_simp
            first | exact ⟨rfl, hC, xK_below (Below.refl _ _), xD_none (by decide) (by decide) (by decide) (by decide)⟩ | exact ⟨hC, xK_below (Below.refl _ _), xD_none (by decide) (by decide) (by decide) (by decide)⟩ | exact ⟨rfl, xK_below (Below.refl _ _), xD_none (by decide) (by decide) (by decide) (by decide)⟩ | exact ⟨xK_below (Below.refl _ _), xD_none (by decide) (by decide) (by decide) (by decide)⟩
          have e' : vs 12 = _ := e
          rw [e']
          clear e e'
          simp only [Act.put, List.setIfInBounds_toArray, List.set_cons_succ, List.set_cons_zero]
          refine ⟨.inl ⟨rfl, fun w' hC hDs => ⟨_, rfl, ?_⟩⟩, fun e => ?_⟩
          · have hcell := (hC.cell (p := ⟨bx, ox + i, none⟩) hbrc).trans CXc.out
            go_simp
            first | exact ⟨rfl, hC, xK_below (Below.refl _ _), xD_none (by decide) (by decide) (by decide) (by decide)⟩ | exact ⟨hC, xK_below (Below.refl _ _), xD_none (by decide) (by decide) (by decide) (by decide)⟩ | exact ⟨rfl, xK_below (Below.refl _ _), xD_none (by decide) (by decide) (by decide) (by decide)⟩ | exact ⟨xK_below (Below.refl _ _), xD_none (by decide) (by decide) (by decide) (by decide)⟩
          have e' : vs 13 = _ := e
          rw [e']
          clear e e'
          simp only [Act.put, List.setIfInBounds_toArray, List.set_cons_succ, List.set_cons_zero]
          refine ⟨.inl ⟨rfl, fun w' hC hDs => ⟨_, rfl, ?_⟩⟩, fun e => ?_⟩
          · have a5 := ARc.out.on hC
            go_simp
            refine (psum_ok s2 OK2.out _ r m _ N a5.len (by have := HN.out; omega) a5.cap a5.max (by omega) a5.b256 w' a5.byt (SA.out.on (BWc.out.trans (hC.mono BWc.out.size)))).mono fun e w'' ⟨he, hb⟩ => ⟨by rw [← T2.out]; exact he, hC.trans (hb.mono hC.size), xK_below hb, xD_none (by decide) (by decide) (by decide) (by decide)⟩
          have e' : vs 14 = _ := e
          rw [e']
          clear e e'
          simp only [Act.put, List.setIfInBounds_toArray, List.set_cons_succ, List.set_cons_zero]
          refine ⟨.inl ⟨rfl, fun w' hC hDs => ⟨_, rfl, ?_⟩⟩, fun e => ?_⟩
          · exact gives_ldto rfl (T16.out.below hC T16.out.lt) ⟨hC, xK_below (Below.refl _ _), xD_none (by decide) (by decide) (by decide) (by decide)⟩
          have e' : vs 15 = _ := e
          rw [e']
          clear e e'
          simp only [Act.put, List.setIfInBounds_toArray, List.set_cons_succ, List.set_cons_zero]
          refine ⟨.inl ⟨rfl, fun w' hC hDs => ⟨_, rfl, ?_⟩⟩, fun e => ?_⟩
          · have h1 := eq_tag_self T w'
            have h2 := eqg_tag
            go_simp
            first | exact ⟨rfl, hC, xK_below (Below.refl _ _), xD_none (by decide) (by decide) (by decide) (by decide)⟩ | exact ⟨hC, xK_below (Below.refl _ _), xD_none (by decide) (by decide) (by decide) (by decide)⟩ | exact ⟨rfl, xK_below (Below.refl _ _), xD_none (by decide) (by decide) (by decide) (by decide)⟩ | exact ⟨xK_below (Below.refl _ _), xD_none (by decide) (by decide) (by decide) (by decide)⟩
          have e' : vs 16 = _ := e
          rw [e']
          clear e e'
          simp only [Act.put, List.setIfInBounds_toArray, List.set_cons_succ, List.set_cons_zero]
          refine ⟨.inl ⟨rfl, fun w' hC hDs => ⟨_, rfl, ?_⟩⟩, fun e => ?_⟩
          · go_simp
            first | exact ⟨rfl, hC, xK_below (Below.refl _ _), xD_none (by decide) (by decide) (by decide) (by decide)⟩ | exact ⟨hC, xK_below (Below.refl _ _), xD_none (by decide) (by decide) (by decide) (by decide)⟩ | exact ⟨rfl, xK_below (Below.refl _ _), xD_none (by decide) (by decide) (by decide) (by decide)⟩ | exact ⟨xK_below (Below.refl _ _), xD_none (by decide) (by decide) (by decide) (by decide)⟩
          have e' : vs 17 = _ := e
          rw [e']
          clear e e'
          simp only [Act.put, List.setIfInBounds_toArray, List.set_cons_succ, List.set_cons_zero]
          refine ⟨.inl ⟨rfl, fun w' hC hDs => ⟨_, rfl, ?_⟩⟩, fun e => ?_⟩
          · go_simp
            first | exact ⟨rfl, hC, xK_below (Below.refl _ _), xD_none (by decide) (by decide) (by decide) (by decide)⟩ | exact ⟨hC, xK_below (Below.refl _ _), xD_none (by decide) (by decide) (by decide) (by decide)⟩ | exact ⟨rfl, xK_below (Below.refl _ _), xD_none (by decide) (by decide) (by decide) (by decide)⟩ | exact ⟨xK_below (Below.refl _ _), xD_none (by decide) (by decide) (by decide) (by decide)⟩
          have e' : vs 18 = _ := e
          rw [e']
          clear e e'
          simp only [Act.put, List.setIfInBounds_toArray, List.set_cons_succ, List.set_cons_zero]
          refine ⟨.inl ⟨rfl, fun w' hC hDs => ⟨_, rfl, ?_⟩⟩, fun e => ?_⟩
          · exact gives_ldpo rfl (Pc.out.below hC Pc.out.lt) ⟨hC, xK_below (Below.refl _ _), xD_none (by decide) (by decide) (by decide) (by decide)⟩
          have e' : vs 19 = _ := e
          rw [e']
          clear e e'
          simp only [Act.put, List.setIfInBounds_toArray, List.set_cons_succ, List.set_cons_zero]
          refine ⟨.inl ⟨rfl, fun w' hC hDs => ⟨.slice (some ⟨w'.heap.size, 0, none⟩) 0 0, trivial, ?_⟩⟩, fun _ => ?_⟩
          · go_simp
            have hb : Below w'.heap.size w' (w'.alloc (.cells #[] 5)) := (Below.refl _ _).alloc (Nat.le_refl _) _
            exact ⟨hC.trans (hb.mono hC.size), xK_below hb, fun _ => by rw [updV_self]; exact Own.empty w' hC.size, fun e => absurd e (by decide), fun e => absurd e (by decide), fun e => absurd e (by decide)⟩
          simp only [Act.put, List.setIfInBounds_toArray, List.set_cons_succ, List.set_cons_zero]
          refine ⟨.inl ⟨rfl, fun w' hC hDs => ⟨_, rfl, ?_⟩⟩, fun e => ?_⟩
          · go_simp
            first | exact ⟨rfl, hC, xK_below (Below.refl _ _), xD_none (by decide) (by decide) (by decide) (by decide)⟩ | exact ⟨hC, xK_below (Below.refl _ _), xD_none (by decide) (by decide) (by decide) (by decide)⟩ | exact ⟨rfl, xK_below (Below.refl _ _), xD_none (by decide) (by decide) (by decide) (by decide)⟩ | exact ⟨xK_below (Below.refl _ _), xD_none (by decide) (by decide) (by decide) (by decide)⟩
          have e' : vs 21 = _ := e
          rw [e']
          clear e e'
          simp only [Act.put, List.setIfInBounds_toArray, List.set_cons_succ, List.set_cons_zero]
          refine ⟨.inl ⟨rfl, fun w' hC hDs => ?_⟩, fun _ => ?_⟩
          · have d : Own 5 .u8 w' wc.heap.size (vs 20) [] := (hDs 20 (by kernel_rfl)).1 rfl
            have ar := LBc.out.on hC
            refine gives_appS eltU rfl rfl ar.none d ar.byt.nums ar.len (by rw [List.length_nil]; omega) hC.size fun v' w'' o1 o2 gr => ?_
            have hb := below_grown hC gr d (Nat.le_refl _) (Nat.le_refl _)
            exact ⟨trivial, hb, xK_app d gr o2 (fun h => absurd rfl h) (fun _ h => False.elim (Bool.false_ne_true (h.symm.trans (by kernel_rfl)))), fun e => absurd e (by decide), fun _ => by rw [updV_self]; exact o1, fun e => absurd e (by decide), fun e => absurd e (by decide)⟩
          simp only [Act.put, List.setIfInBounds_toArray, List.set_cons_succ, List.set_cons_zero]
          refine ⟨.inl ⟨rfl, fun w' hC hDs => ⟨_, rfl, ?_⟩⟩, fun e => ?_⟩
          · go_simp
            first | exact ⟨rfl, hC, xK_below (Below.refl _ _), xD_none (by decide) (by decide) (by decide) (by decide)⟩ | exact ⟨hC, xK_below (Below.refl _ _), xD_none (by decide) (by decide) (by decide) (by decide)⟩ | exact ⟨rfl, xK_below (Below.refl _ _), xD_none (by decide) (by decide) (by decide) (by decide)⟩ | exact ⟨xK_below (Below.refl _ _), xD_none (by decide) (by decide) (by decide) (by decide)⟩
          have e' : vs 23 = _ := e
          rw [e']
          clear e e'
          simp only [Act.put, List.setIfInBounds_toArray, List.set_cons_succ, List.set_cons_zero]
          refine ⟨.inl ⟨rfl, fun w' hC hDs => ⟨_, rfl, ?_⟩⟩, fun e => ?_⟩
          · go_simp
            first | exact ⟨rfl, hC, xK_below (Below.refl _ _), xD_none (by decide) (by decide) (by decide) (by decide)⟩ | exact ⟨hC, xK_below (Below.refl _ _), xD_none (by decide) (by decide) (by decide) (by decide)⟩ | exact ⟨rfl, xK_below (Below.refl _ _), xD_none (by decide) (by decide) (by decide) (by decide)⟩ | exact ⟨xK_below (Below.refl _ _), xD_none (by decide) (by decide) (by decide) (by decide)⟩
          have e' : vs 24 = _ := e
          rw [e']
          clear e e'
          simp only [Act.put, List.setIfInBounds_toArray, List.set_cons_succ, List.set_cons_zero]
          refine ⟨.inl ⟨rfl, fun w' hC hDs => ⟨_, rfl, ?_⟩⟩, fun e => ?_⟩
          · go_simp
            first | exact ⟨rfl, hC, xK_below (Below.refl _ _), xD_none (by decide) (by decide) (by decide) (by decide)⟩ | exact ⟨hC, xK_below (Below.refl _ _), xD_none (by decide) (by decide) (by decide) (by decide)⟩ | exact ⟨rfl, xK_below (Below.refl _ _), xD_none (by decide) (by decide) (by decide) (by decide)⟩ | exact ⟨xK_below (Below.refl _ _), xD_none (by decide) (by decide) (by decide) (by decide)⟩
          have e' : vs 25 = _ := e
          rw [e']
          clear e e'
          simp only [Act.put, List.setIfInBounds_toArray, List.set_cons_succ, List.set_cons_zero]
          refine ⟨.inl ⟨rfl, fun w' hC hDs => ⟨_, rfl, ?_⟩⟩, fun e => ?_⟩
          · have hcell := (hC.cell (p := ⟨bx, ox + i, none⟩) hbrc).trans CXc.out
            go_simp
            first | exact ⟨rfl, hC, xK_below (Below.refl _ _), xD_none (by decide) (by decide) (by decide) (by decide)⟩ | exact ⟨hC, xK_below (Below.refl _ _), xD_none (by decide) (by decide) (by decide) (by decide)⟩ | exact ⟨rfl, xK_below (Below.refl _ _), xD_none (by decide) (by decide) (by decide) (by decide)⟩ | exact ⟨xK_below (Below.refl _ _), xD_none (by decide) (by decide) (by decide) (by decide)⟩
          have e' : vs 26 = _ := e
          rw [e']
          clear e e'
          simp only [Act.put, List.setIfInBounds_toArray, List.set_cons_succ, List.set_cons_zero]
          refine ⟨.inl ⟨rfl, fun w' hC hDs => ?_⟩, fun _ => ?_⟩
          · have d : Own 5 .u8 w' wc.heap.size (vs 22) lb := (hDs 22 (by kernel_rfl)).2.1 rfl
            have ar := ARc.out.on hC
            refine gives_appS eltU rfl rfl ar.none d ar.byt.nums ar.len (by rw [LBc.out.len]; omega) hC.size fun v' w'' o1 o2 gr => ?_
            have hb := below_grown hC gr d (Nat.le_refl _) (Nat.le_refl _)
            exact ⟨trivial, hb, xK_app d gr o2 (fun _ _ => Nat.le_refl _) (fun h => absurd rfl h), fun e => absurd e (by decide), fun e => absurd e (by decide), fun _ => by rw [updV_self]; exact o1, fun e => absurd e (by decide)⟩
          simp only [Act.put, List.setIfInBounds_toArray, List.set_cons_succ, List.set_cons_zero]
          refine ⟨.inl ⟨rfl, fun w' hC hDs => ⟨_, rfl, ?_⟩⟩, fun e => ?_⟩
          · have d : Own 5 .u8 w' wc.heap.size (vs 27) (lb ++ r) := (hDs 27 (by kernel_rfl)).2.2.1 rfl
            obtain ⟨A', c', e7, a7⟩ := d.arg HB2256.out
            rw [HBL2.out] at e7 a7
            go_simp
            refine (psum_ok s1 OK1.out A' (lb ++ r) (nb + m) c' na a7.len (by omega) a7.cap a7.max (by omega) a7.b256 w' a7.byt (SA.out.on (BWc.out.trans (hC.mono BWc.out.size)))).mono fun e w'' ⟨he, hb⟩ => ⟨by rw [← T1.out]; exact he, hC.trans (hb.mono hC.size), xK_below hb, xD_none (by decide) (by decide) (by decide) (by decide)⟩
          have e' : vs 28 = _ := e
          rw [e']
          clear e e'
          simp only [Act.put, List.setIfInBounds_toArray, List.set_cons_succ, List.set_cons_zero]
          refine ⟨.inl ⟨rfl, fun w' hC hDs => ⟨_, rfl, ?_⟩⟩, fun e => ?_⟩
          · exact gives_ldto rfl (T16.out.below hC T16.out.lt) ⟨hC, xK_below (Below.refl _ _), xD_none (by decide) (by decide) (by decide) (by decide)⟩
          have e' : vs 29 = _ := e
          rw [e']
          clear e e'
          simp only [Act.put, List.setIfInBounds_toArray, List.set_cons_succ, List.set_cons_zero]
          refine ⟨.inl ⟨rfl, fun w' hC hDs => ⟨_, rfl, ?_⟩⟩, fun e => ?_⟩
          · have h1 := eq_tag_self T w'
            have h2 := eqg_tag
            go_simp
            first | exact ⟨rfl, hC, xK_below (Below.refl _ _), xD_none (by decide) (by decide) (by decide) (by decide)⟩ | exact ⟨hC, xK_below (Below.refl _ _), xD_none (by decide) (by decide) (by decide) (by decide)⟩ | exact ⟨rfl, xK_below (Below.refl _ _), xD_none (by decide) (by decide) (by decide) (by decide)⟩ | exact ⟨xK_below (Below.refl _ _), xD_none (by decide) (by decide) (by decide) (by decide)⟩
          have e' : vs 30 = _ := e
          rw [e']
          clear e e'
          simp only [Act.put, List.setIfInBounds_toArray, List.set_cons_succ, List.set_cons_zero]
          refine ⟨.inl ⟨rfl, fun w' hC hDs => ⟨_, rfl, ?_⟩⟩, fun e => ?_⟩
          · go_simp
            first | exact ⟨rfl, hC, xK_below (Below.refl _ _), xD_none (by decide) (by decide) (by decide) (by decide)⟩ | exact ⟨hC, xK_below (Below.refl _ _), xD_none (by decide) (by decide) (by decide) (by decide)⟩ | exact ⟨rfl, xK_below (Below.refl _ _), xD_none (by decide) (by decide) (by decide) (by decide)⟩ | exact ⟨xK_below (Below.refl _ _), xD_none (by decide) (by decide) (by decide) (by decide)⟩
          have e' : vs 31 = _ := e
          rw [e']
          clear e e'
          simp only [Act.put, List.setIfInBounds_toArray, List.set_cons_succ, List.set_cons_zero]
          intro wd hC hDs
          clear hDs
          have HXd := hid (HXc.out.trans (hC.mono HXc.out.size))
          clear hC
          go_wp2_with fail
          go_roundw
          case rel => exact ⟨i + 1, by omega, by go_num, HXd⟩
          case measure => simp [intOf]; omega
        · have ti : decide ((i : Int) < (n : Int)) = false := by simp; omega
          clear RA
          go_wp2_with fail
          go_roundw
          case rel => exact ⟨j + 1, by omega, by go_num, HX⟩
          case measure => simp [intOf]; omega
    · have tj : decide ((j : Int) < 2) = false := by simp; omega
      clear hb
      go_wp2_with fail
      refine (awake_any wr (SA.out.on BW.out)).mono ?_
      rintro e w8 ⟨rfl, h8⟩
      have b8 := BW.out.trans (h8.mono BW.out.size)
      clear h8
      go_wp2_with fail
      go_ret
      exact ⟨rfl, b8⟩
set_option maxHeartbeats 400000 in
set_option maxRecDepth 100000 in
theorem once_long (KA : Option Addr) (na0 ca : Nat) (KB : Option Addr) (nb0 cb : Nat) (A : Option Addr) (ls : List (List Nat)) (n cap : Nat) (hna : na0 ≤ 9223372036854775807) (hnb : nb0 ≤ 9223372036854775807) (hl : ls.length = n) (hls : ∀ i, (ls.getD i []).length ≤ 9223372036854775807) (h : 3000 < na0 ∨ 3000 < nb0 ∨ 20 < n ∨ ∃ i, i < n ∧ 3000 < (ls.getD i []).length) (w : World) (hR : PrtsN w w.heap.size A ls) (hS : Salts w) :
    Calls Tryd.prog 6 #[.slice KA na0 ca, .slice KB nb0 cb, .slice A n cap] w fun e w' => e = .returned (.bool true) ∧ Below w.heap.size w w' := by
  have SA := hid hS
  have HR := hid hR
  have HL := hid hl
  have HNI := hid hls
  have HB2 := hid (show ∀ i : Nat, (if i = 0 then na0 else nb0) ≤ 9223372036854775807 from fun i => by split <;> omega)
  clear hS hR hls
  go_enter Tryd.func6, Tryd.ntmps6
  go_wp2_with fail
  refine (long_any _ 2 2 (fun i => if i = 0 then na0 else nb0) HB2.out (by omega) _ (by have h := slcs_two (w := w) (t := 22) (K := KA) (kn := na0) (kc := ca) (A := KB) (n := nb0) (c := cb); rw [show (w.alloc (.cells #[.slice KA na0 ca, .slice KB nb0 cb] 22)).heap.size = w.heap.size + 1 by simp]; exact h)).mono ?_
  rintro e w1 ⟨rfl, rfl⟩
  have b1 : Below w.heap.size w (w.alloc (.cells #[.slice KA na0 ca, .slice KB nb0 cb] 22)) := (Below.refl _ _).alloc (Nat.le_refl _) _
  generalize hw1 : World.alloc w _ = w1 at *
  have B1 := hid b1
  clear b1 hw1
  by_cases h2 : 3000 < na0 ∨ 3000 < nb0
  · have e2 : longB 2 (fun i => if i = 0 then na0 else nb0) = true := by
      rcases h2 with h2 | h2
      · exact longB_yes (i := 0) (by omega) h2
      · exact longB_yes (i := 1) (by omega) h2
    rw [e2]
    clear h h2 e2
    go_wp2_with fail
    refine (awake_any w1 (SA.out.on B1.out)).mono ?_
    rintro e w2 ⟨rfl, h2⟩
    have b2 := B1.out.trans (h2.mono B1.out.size)
    clear h2
    go_wp2_with fail
    go_ret
    exact ⟨rfl, b2⟩
  · have e2 : longB 2 (fun i => if i = 0 then na0 else nb0) = false := longB_no fun i _ => by show (if i = 0 then na0 else nb0) ≤ 3000; split <;> omega
    rw [e2]
    by_cases h20 : 20 < n
    · have t1 : decide ((20 : Int) < (n : Int)) = true := decide_eq_true (by omega)
      clear h h2 e2
      go_wp2_with fail
      refine (awake_any w1 (SA.out.on B1.out)).mono ?_
      rintro e w2 ⟨rfl, h2⟩
      have b2 := B1.out.trans (h2.mono B1.out.size)
      clear h2
      go_wp2_with fail
      go_ret
      exact ⟨rfl, b2⟩
    · have t1 : decide ((20 : Int) < (n : Int)) = false := decide_eq_false (by omega)
      have hex : ∃ i, i < n ∧ 3000 < (ls.getD i []).length := by
        rcases h with h | h | h | h
        · exact absurd (.inl h) h2
        · exact absurd (.inr h) h2
        · exact absurd h h20
        · exact h
      obtain ⟨i, hi, hlo⟩ := hex
      have E := hid (longB_yes (N := fun i => (ls.getD i []).length) hi hlo)
      have hn20 : n ≤ 20 := by omega
      clear h h2 e2 hi hlo h20
      go_wp2_with fail
      refine (long_any A n cap (fun i => (ls.getD i []).length) HNI.out (by omega) w1 (((HR.out.below B1.out (Nat.le_refl _)).more B1.out.size).slcs HL.out)).mono ?_
      rintro e w' ⟨rfl, rfl⟩
      rw [E.out]
      clear t1
      go_wp2_with fail
      refine (awake_any w1 (SA.out.on B1.out)).mono ?_
      rintro e w2 ⟨rfl, h2⟩
      have b2 := B1.out.trans (h2.mono B1.out.size)
      clear h2
      go_wp2_with fail
      go_ret
      exact ⟨rfl, b2⟩
theorem once_law (KA : Option Addr) (la0 : List Nat) (na0 ca : Nat) (KB : Option Addr) (lb0 : List Nat) (nb0 cb : Nat) (A : Option Addr) (ls : List (List Nat)) (n cap : Nat) (hl : ls.length = n) (hls : ∀ l ∈ ls, B256 l) (w : World) (hA : Arg w KA la0 na0 ca) (hB : Arg w KB lb0 nb0 cb) (hR : PrtsN w w.heap.size A ls) (hS : Salts w) :
    Calls Tryd.prog 6 #[.slice KA na0 ca, .slice KB nb0 cb, .slice A n cap] w fun e w' => e = .returned (.bool true) ∧ Below w.heap.size w w' := by
  have ha1 := hA.cap
  have ha2 := hA.max
  have hb1 := hB.cap
  have hb2 := hB.max
  unfold maxLen at ha2 hb2
  by_cases h : 3000 < na0 ∨ 3000 < nb0 ∨ 20 < n ∨ ∃ i, i < n ∧ 3000 < (ls.getD i []).length
  · refine once_long KA na0 ca KB nb0 cb A ls n cap (by omega) (by omega) hl (fun i => ?_) h w hR hS
    by_cases hi : i < n
    · obtain ⟨b, o, _, _, hr⟩ := hR (by omega)
      obtain ⟨A', c, _, h1, h2, _⟩ := hr i (by omega)
      unfold maxLen at h2
      omega
    · rw [List.getD_eq_getElem?_getD, List.getElem?_eq_none (by omega)]; exact Nat.zero_le _
  · refine once_short KA la0 na0 ca KB lb0 nb0 cb A ls n cap (by omega) (by omega) (by omega) hl hls (fun i hi => ?_) w hA hB hR hS
    have : ¬ 3000 < (ls.getD i []).length := fun h3 => h (.inr (.inr (.inr ⟨i, hi, h3⟩)))
    omega
end Go.Proofs.YtcpoccahneppiaaDoor
