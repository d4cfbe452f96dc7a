/-
  Contract of the document's digest (casemateref03.Sum) over this translation.
  Contracts of the document's keys' blocks and tags (casemateref04.Block, Of, Parts, Bytes) over this translation.
  Contract of the document's tag (casemateref04.Of) over this translation.
  Contract of the document's bytes of a tag (casemateref04.Bytes) over this translation.
  Contracts of the document's Block and Key (casemateref05) over this translation.
  A region that draws its order, whose values may hang on the order (addresses of what it makes): of each operation's value one states what it is like (S, of no world) and what the world then holds of it and of those it waits for (D, kept by what the others do: K).
  An append leaves the slice that it was given as it was; the append in a region that draws its order.
  An append to an empty slice without room lays nothing into what is there.
  The walk of PbkdfKeys.
-/
import Derived.Test.YtnnhnlabkbjacaaDoorMrgPbkdfKeys5
import Derived.Laws.BitsAllLaws
set_option linter.unusedVariables false
namespace Go.Proofs.YtnnhnlabkbjacaaDoor
open Go.ChangeShapes Go.WideShapes Go.ChangeAt Go.RowKit
attribute [local go_sem] Gives
theorem passes_step (s : ShaM.S8) (l : List Nat) (k : Nat) (h : 64 * k + 64 ≤ l.length) :
    ShaM.passes s (l.take (64 * (k + 1))) = ShaM.pass (ShaM.passes s (l.take (64 * k))) (ShaM.at' ((l.drop (64 * k)).take 64)) := by
  have e : l.take (64 * (k + 1)) = l.take (64 * k) ++ (l.drop (64 * k)).take 64 := by
    rw [show 64 * (k + 1) = 64 * k + 64 by omega, List.take_add]
  rw [e, ShaM.passes_append k (by rw [List.length_take]; omega), ShaM.passes_long (by rw [List.length_take, List.length_drop]; omega), ShaM.passes_short (by rw [List.length_drop, List.length_take]; omega)]
theorem digest_at (s : ShaM.S8) (i r : Nat) (hr : r < 4) : ShaM.digest s (4 * i + r) = s.get i / 2 ^ (8 * (3 - r)) % 256 := by
  unfold ShaM.digest
  rw [show (4 * i + r) / 4 = i by omega, show (4 * i + r) % 4 = r by omega]
theorem dg_step4 (s : ShaM.S8) (i : Nat) : (fun j => if j = 4 * i + 3 then ShaM.digest s (4 * i + 3) else if j = 4 * i + 2 then ShaM.digest s (4 * i + 2) else if j = 4 * i + 1 then ShaM.digest s (4 * i + 1) else if j = 4 * i then ShaM.digest s (4 * i) else dg s (4 * i) j) = dg s (4 * (i + 1)) := by
  rw [show 4 * (i + 1) = 4 * i + 3 + 1 by omega, ← dg_step s (4 * i + 3), ← dg_step s (4 * i + 2), ← dg_step s (4 * i + 1), ← dg_step s (4 * i)]
/-- Four bytes laid, each or not. -/
def F4 (c0 c1 c2 c3 v0 v1 v2 v3 : Nat) (base : Nat → Nat) (d : Nat → Bool) (j : Nat) : Nat :=
  if j = c3 ∧ d 41 = true then v3 else if j = c2 ∧ d 39 = true then v2 else if j = c1 ∧ d 37 = true then v1 else if j = c0 ∧ d 35 = true then v0 else base j
def st4 (j : Nat) : Bool := j == 35 || j == 37 || j == 39 || j == 41
theorem st4_lt (j : Nat) (h : st4 j = true) : j < 42 := by
  unfold st4 at h; simp at h; omega
theorem F4_set0 (c v0 v1 v2 v3 : Nat) (base : Nat → Nat) (d : Nat → Bool) : (fun j => if j = c + 0 then v0 else F4 c (c + 1) (c + 2) (c + 3) v0 v1 v2 v3 base d j) = F4 c (c + 1) (c + 2) (c + 3) v0 v1 v2 v3 base (upB d 35) := funext fun j => by
  unfold F4 upB
  by_cases e : j = c + 0
  · subst e; simp
  · by_cases e3 : j = c + 3 <;> by_cases e2 : j = c + 2 <;> by_cases e1 : j = c + 1 <;> by_cases e0 : j = c <;> simp_all
theorem F4_set1 (c v0 v1 v2 v3 : Nat) (base : Nat → Nat) (d : Nat → Bool) : (fun j => if j = c + 1 then v1 else F4 c (c + 1) (c + 2) (c + 3) v0 v1 v2 v3 base d j) = F4 c (c + 1) (c + 2) (c + 3) v0 v1 v2 v3 base (upB d 37) := funext fun j => by
  unfold F4 upB
  by_cases e : j = c + 1
  · subst e; simp
  · by_cases e3 : j = c + 3 <;> by_cases e2 : j = c + 2 <;> by_cases e1 : j = c + 1 <;> by_cases e0 : j = c <;> simp_all
theorem F4_set2 (c v0 v1 v2 v3 : Nat) (base : Nat → Nat) (d : Nat → Bool) : (fun j => if j = c + 2 then v2 else F4 c (c + 1) (c + 2) (c + 3) v0 v1 v2 v3 base d j) = F4 c (c + 1) (c + 2) (c + 3) v0 v1 v2 v3 base (upB d 39) := funext fun j => by
  unfold F4 upB
  by_cases e : j = c + 2
  · subst e; simp
  · by_cases e3 : j = c + 3 <;> by_cases e2 : j = c + 2 <;> by_cases e1 : j = c + 1 <;> by_cases e0 : j = c <;> simp_all
theorem F4_set3 (c v0 v1 v2 v3 : Nat) (base : Nat → Nat) (d : Nat → Bool) : (fun j => if j = c + 3 then v3 else F4 c (c + 1) (c + 2) (c + 3) v0 v1 v2 v3 base d j) = F4 c (c + 1) (c + 2) (c + 3) v0 v1 v2 v3 base (upB d 41) := funext fun j => by
  unfold F4 upB
  by_cases e : j = c + 3
  · subst e; simp
  · by_cases e3 : j = c + 3 <;> by_cases e2 : j = c + 2 <;> by_cases e1 : j = c + 1 <;> by_cases e0 : j = c <;> simp_all
theorem byte_wrap (x d : Nat) (_hx : x < 4294967296) : IntKind.u8.wrap (IntKind.u32.wrap ((x : Int) / ((d : Nat) : Int))) = ((x / d % 256 : Nat) : Int) := by
  have h : x / d ≤ x := Nat.div_le_self _ _
  rw [show (x : Int) / ((d : Nat) : Int) = ((x / d : Nat) : Int) by simp, IntKind.wrap_u32, IntKind.wrap_u8]
  omega
theorem byte_wrap1 (x : Nat) : IntKind.u8.wrap (x : Int) = ((x / 2 ^ (8 * (3 - 3)) % 256 : Nat) : Int) := by
  rw [IntKind.wrap_u8, show 2 ^ (8 * (3 - 3)) = 1 from rfl, Nat.div_one]; omega
theorem nil_byt {w : World} {l : List Nat} (h : Byt w w.heap.size none l) : l = [] := by
  by_cases h0 : 0 < l.length
  · obtain ⟨b, o, e, _⟩ := h h0
    cases e
  · exact List.eq_nil_of_length_eq_zero (by omega)
set_option maxHeartbeats 2000000 in
set_option maxRecDepth 100000 in
theorem rsum_any (A : Option Addr) (l : List Nat) (n cap : Nat) (hl : l.length = n) (hn : n ≤ 100000) (h0 : A = none → n = 0 ∧ cap = 0) (h256 : B256 l) (w : World) (hA : Byt w w.heap.size A l) :
    Calls Tryd.prog 33 #[.slice A n cap] w fun e w' => e = .returned (.agg (tag (ShaM.sum l))) ∧ Below w.heap.size w w' := by
  have htl := ShaM.tail_length n
  have hzl : ShaM.zeros n < 64 := by unfold ShaM.zeros; omega
  have hwhole := ShaM.tail_whole n
  have hsum : ShaM.sum l = ShaM.digest (ShaM.passes ShaM.seeds (l ++ ShaM.tail n)) := by unfold ShaM.sum ShaM.ended; rw [Nat.zero_add, hl]
  have ht256 := ShaM.tail_256 n
  have TA := hid fun w => tail_any n (by omega) w
  rw [hsum]
  clear hsum
  generalize ShaM.tail n = tl at *
  have htl9 : 9 ≤ tl.length := by omega
  have htl100 : tl.length ≤ 100 := by omega
  have HWH := hid hwhole
  have HT256 := hid ht256
  have HA := hid hA
  have HL := hid hl
  have H256 := hid h256
  clear hA hl h256 htl hzl hwhole ht256
  go_enter Tryd.func33, Tryd.ntmps33
  go_upto_region 2 with fail
  generalize hw3 : World.alloc w _ = w3
  have b1 : Blk w3 w.heap.size 43 (tag fun _ => 0) := by rw [← hw3]; exact Blk.top zlit_tag rfl
  have hb : Below w.heap.size w w3 := by rw [← hw3]; exact (Below.refl _ _).alloc (Nat.le_refl _) _
  clear hw3
  have a3 := ((HA.out.below hb (Nat.le_refl _)).more hb.size)
  have B1 := hid b1
  have BEL := hid hb
  have A3 := hid a3
  clear b1 hb a3
  go_upto_region 3 with (at_builtin; (with_reducible apply wappN_any elt8); rfl; rfl; exact h0; exact (Own.nil (e := 5) (k := .u8) (w := w3) (B := w3.heap.size)); exact A3.out; exact HL.out; (rw [List.length_nil]; omega); exact Nat.le_refl _; intro v1 w4 o4 g4)
  rw [List.nil_append] at o4
  have b4 := below_grown (Below.refl w3.heap.size w3) g4 (Own.nil (e := 5) (k := .u8) (w := w3) (B := w3.heap.size)) (Nat.le_refl _) (Nat.le_refl _)
  have O4 := hid o4
  have B4 := hid b4
  clear o4 b4 g4
  go_wp2_with fail
  refine (TA.out w4).mono ?_
  rintro e w5 ⟨A5, c5, rfl, _, _, n5, b5⟩
  obtain ⟨tn, htn⟩ : ∃ t, t = tl.length := ⟨_, rfl⟩
  rw [← htn] at htl9 htl100 ⊢
  obtain ⟨bt, ot, rfl, hBt, hrt⟩ := n5 (by omega)
  have N5 : Hid (Nums .u8 w5 w5.heap.size (some ⟨bt, ot, none⟩) tl) := hid fun _ => ⟨bt, ot, rfl, hBt, hrt⟩
  have O5 := hid (O4.out.below b5)
  have B5 := hid (B4.out.trans (b5.mono B4.out.size))
  have HTN := hid htn
  have hsz5 := B5.out.size
  clear n5 b5 hrt htn O4 B4 TA
  go_upto_region 4 with (at_builtin; (with_reducible apply wappN elt8); rfl; rfl; exact O5.out; exact N5.out; exact HTN.out.symm; (rw [HL.out]; omega); exact hsz5; intro v2 w6 o6 g6)
  have b6 := below_grown B5.out g6 O5.out (Nat.le_refl _) (Nat.le_refl _)
  rcases o6.form with ⟨_, e6⟩ | ⟨ga, ca, e6, hga, hgl, hca, hcm, hna⟩
  · exact absurd (congrArg List.length e6) (by rw [List.length_append, List.length_nil, ← HTN.out]; omega)
  subst e6
  have hall : (l ++ tl).length = n + tn := by rw [List.length_append, HL.out, HTN.out]
  obtain ⟨N, hN⟩ : ∃ N, N = n + tn := ⟨_, rfl⟩
  rw [← hN] at hall
  rw [hall] at hca ⊢
  have hwhole : N % 64 = 0 := by have := HWH.out; rw [← HTN.out] at this; omega
  have hall256 : B256 (l ++ tl) := H256.out.append HT256.out
  generalize hal : l ++ tl = al at *
  have HAL := hid hal
  clear hal
  have hNs : N ≤ 200000 := by omega
  have NA := hid hna
  have B6 := hid b6
  have HALL := hid hall
  have HA256 := hid hall256
  clear hna b6 hall hall256 o6 g6 hN N5 O5 B5
  go_wp2_with fail
  refine (salts_any w6).mono ?_
  rintro e w7 ⟨A7, c7, rfl, _, _, n7, b7⟩
  have N7 := hid n7
  have B7 := hid b7
  rw [show ShaM.salts.length = 64 from rfl]
  clear n7 b7
  go_wp2_with fail
  refine (seeds_any w7).mono ?_
  rintro e w8 ⟨A8, c8, rfl, _, _, n8, b8⟩
  rw [show [ShaM.seeds.a, ShaM.seeds.b, ShaM.seeds.c, ShaM.seeds.d, ShaM.seeds.e, ShaM.seeds.f, ShaM.seeds.g, ShaM.seeds.h].length = 8 from rfl]
  have n8' : Nums .u32 w8 w8.heap.size A8 (lst8 (ShaM.passes ShaM.seeds (al.take (64 * 0)))) := by
    rw [Nat.mul_zero, List.take_zero, ShaM.passes_short (by simp)]; exact n8
  have N8 := hid n8'
  have bb : Below w6.heap.size w6 w8 := B7.out.trans (b8.mono B7.out.size)
  have NA8 := hid ((NA.out.below bb (Nat.le_refl _)).more bb.size)
  have N78 := hid ((N7.out.below b8 (Nat.le_refl _)).more b8.size)
  have B38 := hid (B6.out.trans (bb.mono B6.out.size))
  have hgl8 : ga < w8.heap.size := Nat.lt_of_lt_of_le hgl bb.size
  clear n8 b8 bb n8' NA N7 B7 B6
  go_wp2_with fail
  go_loopw [5, 6] (fun u v wr => ∃ (k i : Nat) (An : Option Addr) (cn : Nat), Hid (i = 64 * k) ∧ i ≤ N ∧ v = .int .i64 i ∧ u = .slice An 8 cn ∧ Hid (Nums .u32 wr wr.heap.size An (lst8 (ShaM.passes ShaM.seeds (al.take (64 * k))))) ∧ Hid (Below w8.heap.size w8 wr)) (fun _ v _ => N - (intOf v).toNat)
  case atStart => exact ⟨0, 0, _, _, hid rfl, Nat.zero_le _, rfl, rfl, N8, hid (Below.refl _ _)⟩
  case round =>
    obtain ⟨k, i, An, cn, hik, hi, rfl, rfl, hn', hb⟩ := hrel
    clear N8
    by_cases hlt : i < N
    · have ti : decide (i < N) = true := decide_eq_true hlt
      have h64 : i + 64 ≤ N := by have := hik.out; omega
      have hici : ¬ (ca = i) := by omega
      have hok : (ShaM.passes ShaM.seeds (al.take (64 * k))).ok := ShaM.passes_ok _ (Nat.le_refl _) ShaM.seeds_ok
      have hst : ShaM.passes ShaM.seeds (al.take (64 * (k + 1))) = ShaM.pass (ShaM.passes ShaM.seeds (al.take (64 * k))) (ShaM.at' ((al.drop i).take 64)) := by
        rw [hik.out]; exact passes_step ShaM.seeds al k (by rw [HALL.out]; have := hik.out; omega)
      have hby : Byt wr wr.heap.size (some ⟨ga, 0 + i, none⟩) ((al.drop i).take 64) := ((NA8.out.below hb.out (Nat.le_refl _)).more hb.out.size).byt.drop i |>.take 64
      rw [Nat.zero_add] at hby
      have hl64 : ((al.drop i).take 64).length = 64 := by rw [List.length_take, List.length_drop, HALL.out]; omega
      have HST := hid hst
      have HBY := hid hby
      have HOK := hid hok
      have HL64 := hid hl64
      have HI64 := hid h64
      have ec : (i : Int) + 64 ≤ (ca : Int) := by omega
      clear hst hby hok hl64
      go_wp2_with fail
      refine (rpass_any _ HOK.out An cn _ ((al.drop i).take 64) (ca - i) HL64.out (fun j => ((HA256.out.drop i).take 64).at' j) A7 c7 wr hn'.out HBY.out ((N78.out.below hb.out (Nat.le_refl _)).more hb.out.size)).mono ?_
      rintro e w9 ⟨A9, c9, rfl, _, _, n9, b9⟩
      rw [show ∀ S, (lst8 S).length = 8 from fun _ => rfl]
      have N9 := hid n9
      have B9 := hid (hb.out.trans (b9.mono hb.out.size))
      clear n9 b9 HBY HOK hn'
      have ei : (i : Int) + 64 ≤ 9223372036854775807 := by have := hNs; omega
      go_wp2_with fail
      go_roundw
      case rel => exact ⟨k + 1, i + 64, A9, c9, hid (by have := hik.out; omega), HI64.out, by go_num, rfl, hid (by rw [HST.out]; exact N9.out), B9⟩
      case measure => simp [intOf] <;> omega
    · obtain rfl : i = N := by omega
      have hfull : al.take (64 * k) = al := by rw [← hik.out, ← HALL.out, List.take_length]
      have hN := hn'.out
      rw [hfull] at hN
      have hok := ShaM.passes_ok (l := al) _ (Nat.le_refl _) ShaM.seeds_ok
      generalize hT : ShaM.passes ShaM.seeds al = T at *
      have HT := hid hT
      have HTok := hid hok
      obtain ⟨bn, on, rfl, hBn, hrn⟩ := hN (by show 0 < 8; omega)
      have CN : Hid (∀ j, j < 8 → wr.cell? ⟨bn, on + j, none⟩ = some (.int .u32 (T.get j : Nat))) := hid fun j hj => by
        rw [← lst8_get T hj]; exact hrn j hj
      have hbw := B38.out.trans (hb.out.mono B38.out.size)
      have c1 := (B1.out.below hbw B1.out.lt)
      have bw := BEL.out.trans (hbw.mono BEL.out.size)
      have hwz : w.heap.size < wr.heap.size := c1.lt
      have C1 := hid c1
      have BW := hid bw
      clear hN hrn hok hT hbw c1 bw hn' N78 NA8 B38 hfull
      go_upto_region 11 with fail
      generalize hg7 : World.alloc wr _ = wa
      have d1 : Blk wa w.heap.size 43 (tag fun _ => 0) := by rw [← hg7]; exact C1.out.alloc _
      have d2 : Blk wa wr.heap.size 43 (tag (dg T (4 * 0))) := by rw [← hg7, Nat.mul_zero, dg_zero]; exact Blk.top zlit_tag rfl
      have db : Below w.heap.size w wa := by rw [← hg7]; exact BW.out.alloc (by omega) _
      have CA : Hid (∀ j, j < 8 → wa.cell? ⟨bn, on + j, none⟩ = some (.int .u32 (T.get j : Nat))) := hid fun j hj => by
        rw [← hg7]; exact (((Below.refl wr.heap.size wr).alloc (Nat.le_refl _) _).cell (p := ⟨bn, on + j, none⟩) hBn).trans (CN.out j hj)
      clear hg7 C1 BW CN
      obtain ⟨g, hg⟩ : ∃ g, g = wr.heap.size := ⟨_, rfl⟩
      rw [← hg] at d2 hBn hwz ⊢
      clear hg
      go_wp2_with fail
      go_loopw [8] (fun v wr => ∃ i : Nat, i ≤ 8 ∧ v = .int .i64 i ∧ Blk wr w.heap.size 43 (tag fun _ => 0) ∧ Blk wr g 43 (tag (dg T (4 * i))) ∧ Hid (∀ j, j < 8 → wr.cell? ⟨bn, on + j, none⟩ = some (.int .u32 (T.get j : Nat))) ∧ Hid (Below w.heap.size w wr)) (fun v _ => 8 - (intOf v).toNat)
      case atStart => exact ⟨0, by omega, rfl, d1, d2, CA, hid db⟩
      case round =>
        clear d1 d2 db CA
        obtain ⟨i, hi, rfl, d1, d2, ca', db⟩ := hrel
        by_cases hlt : i < 8
        · have ti : (i : Int) < 8 := by omega
          have x1 := ShaM.S8.get_lt HTok.out i
          have Q1 := hid (ca'.out i hlt)
          obtain ⟨c0, hc0⟩ : ∃ c, c = 4 * i := ⟨_, rfl⟩
          obtain ⟨c1, hc1⟩ : ∃ c, c = 4 * i + 1 := ⟨_, rfl⟩
          obtain ⟨c2, hc2⟩ : ∃ c, c = 4 * i + 2 := ⟨_, rfl⟩
          obtain ⟨c3, hc3⟩ : ∃ c, c = 4 * i + 3 := ⟨_, rfl⟩
          have E0 := hid (show IntKind.i64.wrap (4 * (i : Int)) = (c0 : Int) from wr_nat (by omega) (by omega))
          have E1 := hid (show IntKind.i64.wrap ((c0 : Int) + 1) = (c1 : Int) from wr_nat (by omega) (by omega))
          have E2 := hid (show IntKind.i64.wrap ((c0 : Int) + 2) = (c2 : Int) from wr_nat (by omega) (by omega))
          have E3 := hid (show IntKind.i64.wrap ((c0 : Int) + 3) = (c3 : Int) from wr_nat (by omega) (by omega))
          have t0 : (c0 : Int) < 32 := by omega
          have t1 : (c1 : Int) < 32 := by omega
          have t2 : (c2 : Int) < 32 := by omega
          have t3 : (c3 : Int) < 32 := by omega
          have D1 := hid d1
          have D2 := hid d2
          have DB := hid db
          have HC := hid (And.intro hc0 (And.intro hc1 (And.intro hc2 hc3)))
          have v0 := digest_at T i 0 (by omega)
          have v1' := digest_at T i 1 (by omega)
          have v2' := digest_at T i 2 (by omega)
          have v3' := digest_at T i 3 (by omega)
          have hst := dg_step4 T i
          rw [← hc3, ← hc2, ← hc1, ← hc0] at hst
          rw [Nat.add_zero, ← hc0] at v0
          rw [← hc1] at v1'
          rw [← hc2] at v2'
          rw [← hc3] at v3'
          have HV := hid (And.intro v0 (And.intro v1' (And.intro v2' v3')))
          have HST := hid hst
          clear d1 d2 db hc0 hc1 hc2 hc3 v0 v1' v2' v3' hst
          go_wp2_with fail
          refine wp_region_set (D := fun d w' => Below g wr w' ∧ Blk w' g 43 (tag (F4 c0 c1 c2 c3 (ShaM.digest T c0) (ShaM.digest T c1) (ShaM.digest T c2) (ShaM.digest T c3) (dg T c0) d))) st4 42 st4_lt (by kernel_rfl) (by kernel_rfl) (by kernel_rfl) ?_ ?_ ?_
          · intro d d' w' hd hw'
            refine ⟨hw'.1, ?_⟩
            have e : F4 c0 c1 c2 c3 (ShaM.digest T c0) (ShaM.digest T c1) (ShaM.digest T c2) (ShaM.digest T c3) (dg T c0) d' = F4 c0 c1 c2 c3 (ShaM.digest T c0) (ShaM.digest T c1) (ShaM.digest T c2) (ShaM.digest T c3) (dg T c0) d := funext fun j => by
              unfold F4
              rw [hd 35 rfl, hd 37 rfl, hd 39 rfl, hd 41 rfl]
            rw [e]; exact hw'.2
          · refine ⟨(Below.refl g wr).drew, ?_⟩
            have e : F4 c0 c1 c2 c3 (ShaM.digest T c0) (ShaM.digest T c1) (ShaM.digest T c2) (ShaM.digest T c3) (dg T c0) (fun _ => false) = dg T c0 := funext fun j => by
              unfold F4; simp
            rw [e, HC.out.1]; exact D2.out.drew
          simp only [List.take_succ_cons, List.take_zero, List.drop_succ_cons, List.drop_zero]
          apply wpM_val
          · rfl
          · rfl
          · intro dd w' hw'
            go_simp
            first | exact rfl | exact ⟨rfl, hw'⟩
          simp only [Act.put, List.setIfInBounds_toArray, List.set_cons_succ, List.set_cons_zero]
          apply wpM_val
          · rfl
          · rfl
          · intro dd w' hw'
            have h1 : _ := E0.out
            go_simp
            first | exact rfl | exact ⟨rfl, hw'⟩
          simp only [Act.put, List.setIfInBounds_toArray, List.set_cons_succ, List.set_cons_zero]
          apply wpM_val
          · rfl
          · rfl
          · intro dd w' hw'
            go_simp
            first | exact rfl | exact ⟨rfl, hw'⟩
          simp only [Act.put, List.setIfInBounds_toArray, List.set_cons_succ, List.set_cons_zero]
          apply wpM_val
          · rfl
          · rfl
          · intro dd w' hw'
            have h1 : _ := E0.out
            go_simp
            first | exact rfl | exact ⟨rfl, hw'⟩
          simp only [Act.put, List.setIfInBounds_toArray, List.set_cons_succ, List.set_cons_zero]
          apply wpM_val
          · rfl
          · rfl
          · intro dd w' hw'
            have h1 : _ := E1.out
            go_simp
            first | exact rfl | exact ⟨rfl, hw'⟩
          simp only [Act.put, List.setIfInBounds_toArray, List.set_cons_succ, List.set_cons_zero]
          apply wpM_val
          · rfl
          · rfl
          · intro dd w' hw'
            go_simp
            first | exact rfl | exact ⟨rfl, hw'⟩
          simp only [Act.put, List.setIfInBounds_toArray, List.set_cons_succ, List.set_cons_zero]
          apply wpM_val
          · rfl
          · rfl
          · intro dd w' hw'
            have h1 : _ := E0.out
            go_simp
            first | exact rfl | exact ⟨rfl, hw'⟩
          simp only [Act.put, List.setIfInBounds_toArray, List.set_cons_succ, List.set_cons_zero]
          apply wpM_val
          · rfl
          · rfl
          · intro dd w' hw'
            have h1 : _ := E2.out
            go_simp
            first | exact rfl | exact ⟨rfl, hw'⟩
          simp only [Act.put, List.setIfInBounds_toArray, List.set_cons_succ, List.set_cons_zero]
          apply wpM_val
          · rfl
          · rfl
          · intro dd w' hw'
            go_simp
            first | exact rfl | exact ⟨rfl, hw'⟩
          simp only [Act.put, List.setIfInBounds_toArray, List.set_cons_succ, List.set_cons_zero]
          apply wpM_val
          · rfl
          · rfl
          · intro dd w' hw'
            have h1 : _ := E0.out
            go_simp
            first | exact rfl | exact ⟨rfl, hw'⟩
          simp only [Act.put, List.setIfInBounds_toArray, List.set_cons_succ, List.set_cons_zero]
          apply wpM_val
          · rfl
          · rfl
          · intro dd w' hw'
            have h1 : _ := E3.out
            go_simp
            first | exact rfl | exact ⟨rfl, hw'⟩
          simp only [Act.put, List.setIfInBounds_toArray, List.set_cons_succ, List.set_cons_zero]
          apply wpM_val
          · rfl
          · rfl
          · intro dd w' hw'
            go_simp
            first | exact rfl | exact ⟨rfl, hw'⟩
          simp only [Act.put, List.setIfInBounds_toArray, List.set_cons_succ, List.set_cons_zero]
          apply wpM_val
          · rfl
          · rfl
          · intro dd w' hw'
            go_simp
            first | exact rfl | exact ⟨rfl, hw'⟩
          simp only [Act.put, List.setIfInBounds_toArray, List.set_cons_succ, List.set_cons_zero]
          apply wpM_val
          · rfl
          · rfl
          · intro dd w' hw'
            go_simp
            first | exact rfl | exact ⟨rfl, hw'⟩
          simp only [Act.put, List.setIfInBounds_toArray, List.set_cons_succ, List.set_cons_zero]
          apply wpM_val
          · rfl
          · rfl
          · intro dd w' hw'
            have hcell := (hw'.1.cell (p := ⟨bn, on + i, none⟩) hBn).trans Q1.out
            go_simp
            first | exact rfl | exact ⟨rfl, hw'⟩
          simp only [Act.put, List.setIfInBounds_toArray, List.set_cons_succ, List.set_cons_zero]
          apply wpM_val
          · rfl
          · rfl
          · intro dd w' hw'
            go_simp
            first | exact rfl | exact ⟨rfl, hw'⟩
          simp only [Act.put, List.setIfInBounds_toArray, List.set_cons_succ, List.set_cons_zero]
          apply wpM_val
          · rfl
          · rfl
          · intro dd w' hw'
            go_simp
            first | exact rfl | exact ⟨rfl, hw'⟩
          simp only [Act.put, List.setIfInBounds_toArray, List.set_cons_succ, List.set_cons_zero]
          apply wpM_val
          · rfl
          · rfl
          · intro dd w' hw'
            go_simp
            first | exact rfl | exact ⟨rfl, hw'⟩
          simp only [Act.put, List.setIfInBounds_toArray, List.set_cons_succ, List.set_cons_zero]
          apply wpM_val
          · rfl
          · rfl
          · intro dd w' hw'
            go_simp
            first | exact rfl | exact ⟨rfl, hw'⟩
          simp only [Act.put, List.setIfInBounds_toArray, List.set_cons_succ, List.set_cons_zero]
          apply wpM_val
          · rfl
          · rfl
          · intro dd w' hw'
            go_simp
            first | exact rfl | exact ⟨rfl, hw'⟩
          simp only [Act.put, List.setIfInBounds_toArray, List.set_cons_succ, List.set_cons_zero]
          apply wpM_val
          · rfl
          · rfl
          · intro dd w' hw'
            have hcell := (hw'.1.cell (p := ⟨bn, on + i, none⟩) hBn).trans Q1.out
            go_simp
            first | exact rfl | exact ⟨rfl, hw'⟩
          simp only [Act.put, List.setIfInBounds_toArray, List.set_cons_succ, List.set_cons_zero]
          apply wpM_val
          · rfl
          · rfl
          · intro dd w' hw'
            go_simp
            first | exact rfl | exact ⟨rfl, hw'⟩
          simp only [Act.put, List.setIfInBounds_toArray, List.set_cons_succ, List.set_cons_zero]
          apply wpM_val
          · rfl
          · rfl
          · intro dd w' hw'
            go_simp
            first | exact rfl | exact ⟨rfl, hw'⟩
          simp only [Act.put, List.setIfInBounds_toArray, List.set_cons_succ, List.set_cons_zero]
          apply wpM_val
          · rfl
          · rfl
          · intro dd w' hw'
            go_simp
            first | exact rfl | exact ⟨rfl, hw'⟩
          simp only [Act.put, List.setIfInBounds_toArray, List.set_cons_succ, List.set_cons_zero]
          apply wpM_val
          · rfl
          · rfl
          · intro dd w' hw'
            go_simp
            first | exact rfl | exact ⟨rfl, hw'⟩
          simp only [Act.put, List.setIfInBounds_toArray, List.set_cons_succ, List.set_cons_zero]
          apply wpM_val
          · rfl
          · rfl
          · intro dd w' hw'
            go_simp
            first | exact rfl | exact ⟨rfl, hw'⟩
          simp only [Act.put, List.setIfInBounds_toArray, List.set_cons_succ, List.set_cons_zero]
          apply wpM_val
          · rfl
          · rfl
          · intro dd w' hw'
            have hcell := (hw'.1.cell (p := ⟨bn, on + i, none⟩) hBn).trans Q1.out
            go_simp
            first | exact rfl | exact ⟨rfl, hw'⟩
          simp only [Act.put, List.setIfInBounds_toArray, List.set_cons_succ, List.set_cons_zero]
          apply wpM_val
          · rfl
          · rfl
          · intro dd w' hw'
            go_simp
            first | exact rfl | exact ⟨rfl, hw'⟩
          simp only [Act.put, List.setIfInBounds_toArray, List.set_cons_succ, List.set_cons_zero]
          apply wpM_val
          · rfl
          · rfl
          · intro dd w' hw'
            go_simp
            first | exact rfl | exact ⟨rfl, hw'⟩
          simp only [Act.put, List.setIfInBounds_toArray, List.set_cons_succ, List.set_cons_zero]
          apply wpM_val
          · rfl
          · rfl
          · intro dd w' hw'
            go_simp
            first | exact rfl | exact ⟨rfl, hw'⟩
          simp only [Act.put, List.setIfInBounds_toArray, List.set_cons_succ, List.set_cons_zero]
          apply wpM_val
          · rfl
          · rfl
          · intro dd w' hw'
            go_simp
            first | exact rfl | exact ⟨rfl, hw'⟩
          simp only [Act.put, List.setIfInBounds_toArray, List.set_cons_succ, List.set_cons_zero]
          apply wpM_val
          · rfl
          · rfl
          · intro dd w' hw'
            go_simp
            first | exact rfl | exact ⟨rfl, hw'⟩
          simp only [Act.put, List.setIfInBounds_toArray, List.set_cons_succ, List.set_cons_zero]
          apply wpM_val
          · rfl
          · rfl
          · intro dd w' hw'
            have hcell := (hw'.1.cell (p := ⟨bn, on + i, none⟩) hBn).trans Q1.out
            go_simp
            first | exact rfl | exact ⟨rfl, hw'⟩
          simp only [Act.put, List.setIfInBounds_toArray, List.set_cons_succ, List.set_cons_zero]
          apply wpM_val
          · rfl
          · rfl
          · intro dd w' hw'
            go_simp
            first | exact rfl | exact ⟨rfl, hw'⟩
          simp only [Act.put, List.setIfInBounds_toArray, List.set_cons_succ, List.set_cons_zero]
          apply wpM_val
          · rfl
          · rfl
          · intro dd w' hw'
            go_simp
            first | exact rfl | exact ⟨rfl, hw'⟩
          simp only [Act.put, List.setIfInBounds_toArray, List.set_cons_succ, List.set_cons_zero]
          apply wpM_put
          · rfl
          · rfl
          · intro d w' hd hw'
            have q := (hw'.2.cell c0).trans (get_tag (by omega))
            have qf := hw'.2.frozen c0
            go_simp
            refine ⟨rfl, hw'.1.setCell (Nat.le_refl _) _, ?_⟩
            have h := hw'.2.setCell_same c0 (.int .u8 (ShaM.digest T c0 : Nat))
            rw [tag_set] at h
            obtain ⟨hc0, hc1, hc2, hc3⟩ := HC.out
            obtain ⟨v0, v1', v2', v3'⟩ := HV.out
            have ev : IntKind.u8.wrap (IntKind.u32.wrap (((T.get i : Nat) : Int) / 16777216)) = ((ShaM.digest T c0 : Nat) : Int) := by
              rw [v0]; exact byte_wrap _ 16777216 x1
            have ef := F4_set0 c0 (ShaM.digest T c0) (ShaM.digest T c1) (ShaM.digest T c2) (ShaM.digest T c3) (dg T c0) d
            rw [← show c1 = c0 + 1 by omega, ← show c2 = c0 + 2 by omega, ← show c3 = c0 + 3 by omega] at ef
            rw [ev, ← ef]
            exact h
          simp only [Act.put]
          apply wpM_val
          · rfl
          · rfl
          · intro dd w' hw'
            go_simp
            first | exact rfl | exact ⟨rfl, hw'⟩
          simp only [Act.put, List.setIfInBounds_toArray, List.set_cons_succ, List.set_cons_zero]
          apply wpM_put
          · rfl
          · rfl
          · intro d w' hd hw'
            have q := (hw'.2.cell c1).trans (get_tag (by omega))
            have qf := hw'.2.frozen c1
            go_simp
            refine ⟨rfl, hw'.1.setCell (Nat.le_refl _) _, ?_⟩
            have h := hw'.2.setCell_same c1 (.int .u8 (ShaM.digest T c1 : Nat))
            rw [tag_set] at h
            obtain ⟨hc0, hc1, hc2, hc3⟩ := HC.out
            obtain ⟨v0, v1', v2', v3'⟩ := HV.out
            have ev : IntKind.u8.wrap (IntKind.u32.wrap (((T.get i : Nat) : Int) / 65536)) = ((ShaM.digest T c1 : Nat) : Int) := by
              rw [v1']; exact byte_wrap _ 65536 x1
            have ef := F4_set1 c0 (ShaM.digest T c0) (ShaM.digest T c1) (ShaM.digest T c2) (ShaM.digest T c3) (dg T c0) d
            rw [← show c1 = c0 + 1 by omega, ← show c2 = c0 + 2 by omega, ← show c3 = c0 + 3 by omega] at ef
            rw [ev, ← ef]
            exact h
          simp only [Act.put]
          apply wpM_val
          · rfl
          · rfl
          · intro dd w' hw'
            go_simp
            first | exact rfl | exact ⟨rfl, hw'⟩
          simp only [Act.put, List.setIfInBounds_toArray, List.set_cons_succ, List.set_cons_zero]
          apply wpM_put
          · rfl
          · rfl
          · intro d w' hd hw'
            have q := (hw'.2.cell c2).trans (get_tag (by omega))
            have qf := hw'.2.frozen c2
            go_simp
            refine ⟨rfl, hw'.1.setCell (Nat.le_refl _) _, ?_⟩
            have h := hw'.2.setCell_same c2 (.int .u8 (ShaM.digest T c2 : Nat))
            rw [tag_set] at h
            obtain ⟨hc0, hc1, hc2, hc3⟩ := HC.out
            obtain ⟨v0, v1', v2', v3'⟩ := HV.out
            have ev : IntKind.u8.wrap (IntKind.u32.wrap (((T.get i : Nat) : Int) / 256)) = ((ShaM.digest T c2 : Nat) : Int) := by
              rw [v2']; exact byte_wrap _ 256 x1
            have ef := F4_set2 c0 (ShaM.digest T c0) (ShaM.digest T c1) (ShaM.digest T c2) (ShaM.digest T c3) (dg T c0) d
            rw [← show c1 = c0 + 1 by omega, ← show c2 = c0 + 2 by omega, ← show c3 = c0 + 3 by omega] at ef
            rw [ev, ← ef]
            exact h
          simp only [Act.put]
          apply wpM_val
          · rfl
          · rfl
          · intro dd w' hw'
            go_simp
            first | exact rfl | exact ⟨rfl, hw'⟩
          simp only [Act.put, List.setIfInBounds_toArray, List.set_cons_succ, List.set_cons_zero]
          apply wpM_put
          · rfl
          · rfl
          · intro d w' hd hw'
            have q := (hw'.2.cell c3).trans (get_tag (by omega))
            have qf := hw'.2.frozen c3
            go_simp
            refine ⟨rfl, hw'.1.setCell (Nat.le_refl _) _, ?_⟩
            have h := hw'.2.setCell_same c3 (.int .u8 (ShaM.digest T c3 : Nat))
            rw [tag_set] at h
            obtain ⟨hc0, hc1, hc2, hc3⟩ := HC.out
            obtain ⟨v0, v1', v2', v3'⟩ := HV.out
            have ev : IntKind.u8.wrap ((T.get i : Nat) : Int) = ((ShaM.digest T c3 : Nat) : Int) := by
              rw [v3']; exact byte_wrap1 _
            have ef := F4_set3 c0 (ShaM.digest T c0) (ShaM.digest T c1) (ShaM.digest T c2) (ShaM.digest T c3) (dg T c0) d
            rw [← show c1 = c0 + 1 by omega, ← show c2 = c0 + 2 by omega, ← show c3 = c0 + 3 by omega] at ef
            rw [ev, ← ef]
            exact h
          simp only [Act.put]
          refine wpM_nil fun w5 hw5 => ?_
          have efull : F4 c0 c1 c2 c3 (ShaM.digest T c0) (ShaM.digest T c1) (ShaM.digest T c2) (ShaM.digest T c3) (dg T c0) (fun _ => true) = dg T (4 * (i + 1)) := by
            rw [← HST.out]
            exact funext fun j => by unfold F4; simp
          have g5 := hid hw5.2
          have b5 := hid hw5.1
          have DB5 := hid (DB.out.trans (hw5.1.mono (Nat.le_of_lt hwz)))
          have EF := hid efull
          clear hw5 efull
          go_wp2_with fail
          go_roundw
          case rel => exact ⟨i + 1, by omega, by go_num, D1.out.below b5.out hwz, by rw [← EF.out]; exact g5.out, hid fun j hj => (b5.out.cell (p := ⟨bn, on + j, none⟩) hBn).trans (ca'.out j hj), DB5⟩
          case measure => simp [intOf] <;> omega
        · obtain rfl : i = 8 := by omega
          rw [show 4 * 8 = 32 from rfl, dg_full] at d2
          have HD2 := hid d2
          have HDB := hid db
          clear ca' db
          go_wp2_with (first | ((with_reducible apply ldt); rfl; exact d2) | ((with_reducible apply stt); rfl; rfl; exact d1))
          apply ret_row Tryd.results33
          · exact d1.setRow_same _
          · exact Tryd.underlying43
          · rfl
          · exact (info_tag.trans (by rw [size_tag]))
          · rfl
          · rfl
          exact ⟨by rw [HAL.out, HT.out], below_setRow HDB.out (Nat.le_refl _) _⟩
end Go.Proofs.YtnnhnlabkbjacaaDoor
namespace Go.Proofs.YtnnhnlabkbjacaaDoor
open Go.ChangeShapes Go.WideShapes Go.ChangeAt Go.RowKit
attribute [local go_sem] Gives
theorem dl_take (f : Nat → Nat) {i : Nat} (h : i < 32) : (HmM.dl f).take (i + 1) = (HmM.dl f).take i ++ [f i] := by
  have hl : i < (HmM.dl f).length := by rw [HmM.dl_length]; exact h
  rw [List.take_succ_eq_append_getElem hl, ← nums_at hl, HmM.dl_get _ h]
theorem dl_full (f : Nat → Nat) : (HmM.dl f).take 32 = HmM.dl f := List.take_of_length_le (by rw [HmM.dl_length]; omega)
theorem pad_take (x : Nat) (k : List Nat) {i : Nat} (h : i < k.length) : (HmM.pad x k).take (i + 1) = (HmM.pad x k).take i ++ [k.getD i 0 ^^^ x] := by
  have hl : i < (HmM.pad x k).length := by rw [HmM.pad_length]; exact h
  rw [List.take_succ_eq_append_getElem hl, ← nums_at hl, HmM.pad_get _ _ h]
set_option maxHeartbeats 1000000 in
set_option maxRecDepth 100000 in
theorem rblock_any (K : Option Addr) (key : List Nat) (kn kcap : Nat) (hkl : key.length = kn) (hkn : kn ≤ 100000) (hk0 : K = none → kn = 0 ∧ kcap = 0) (hk256 : B256 key) (w : World) (hK : Byt w w.heap.size K key) :
    Calls Tryd.prog 32 #[.slice K kn kcap] w fun e w' => Fresh .u8 w w' e (HmM.blk key) := by
  have HK := hid hK
  have HKL := hid hkl
  have H256 := hid hk256
  have hcl := HmM.cutK_len key
  have hbl : HmM.blk key = HmM.cutK key ++ List.replicate (64 - (HmM.cutK key).length) 0 := rfl
  rw [hbl]
  clear hbl
  by_cases h64 : 64 < kn
  · have t0 : decide ((64 : Int) < (kn : Int)) = true := by simp; omega
    have hck : HmM.cutK key = HmM.dl (ShaM.sum key) := by unfold HmM.cutK; rw [if_pos (by rw [hkl]; exact h64)]
    rw [hck] at hcl ⊢
    obtain ⟨C, hC⟩ : ∃ C, C = HmM.dl (ShaM.sum key) := ⟨_, rfl⟩
    rw [← hC] at hcl ⊢
    have HC := hid hC
    clear hK hkl hk256 hck hC
    go_enter Tryd.func32, Tryd.ntmps32
    go_wp2_with fail
    refine (rsum_any K key kn kcap HKL.out hkn hk0 H256.out w HK.out).mono ?_
    rintro e w1 ⟨rfl, h1⟩
    have hz1 := h1.size
    go_upto_region 4 with ((with_reducible apply stt); rfl; rfl; exact Blk.top zlit_tag rfl)
    generalize hw2 : World.setRow _ _ _ = w2
    have c2 : Blk w2 w1.heap.size 43 (tag (ShaM.sum key)) := by rw [← hw2]; exact (Blk.top zlit_tag rfl).setRow_same _
    have b2 : Below w.heap.size w w2 := by rw [← hw2]; exact below_setRow (h1.alloc hz1 _) hz1 _
    clear hw2 h1 hz1
    obtain ⟨g, hg⟩ : ∃ g, g = w1.heap.size := ⟨_, rfl⟩
    rw [← hg] at c2 ⊢
    clear hg
    have C2 := hid c2
    have B2 := hid b2
    have hgl := c2.lt
    clear c2 b2
    go_wp2_with fail
    go_loopw [3, 5] (fun u v wr => ∃ (i : Nat) (vo : Value), i ≤ 32 ∧ v = .int .i64 i ∧ u = vo ∧ Hid (Own 5 .u8 wr w2.heap.size vo (C.take i)) ∧ Hid (Below w2.heap.size w2 wr)) (fun _ v _ => 32 - (intOf v).toNat)
    case atStart => exact ⟨0, _, by omega, rfl, rfl, hid Own.nil, hid (Below.refl _ _)⟩
    case round =>
      obtain ⟨i, vo, hi, rfl, rfl, ho, hb⟩ := hrel
      have hzw := hb.out.size
      have cr := C2.out.below hb.out hgl
      by_cases hlt : i < 32
      · have ti : (i : Int) < 32 := by omega
        have q1 := (cr.cell i).trans (get_tag hlt)
        have hst : C.take (i + 1) = C.take i ++ [ShaM.sum key i] := by rw [HC.out]; exact dl_take _ hlt
        have hlen : (C.take i).length = i := by rw [List.length_take, HC.out, HmM.dl_length]; omega
        have hx := HmM.sum_256 key i
        generalize ShaM.sum key i = x at *
        have HST := hid hst
        have HLEN := hid hlen
        clear hst hlen cr
        go_wp2_with (at_builtin; (with_reducible apply wappN eltB); rfl; rfl; exact ho.out.alloc _; exact nums_one (x := x) (B := wr.heap.size + 1) rfl (Nat.lt_succ_self _); rfl; (rw [HLEN.out]; omega); (simp; omega); intro v' w4 o4 g4)
        have b4 := below_grown (hb.out.alloc hzw (.cells #[.int .u8 (x : Nat)] 5)) g4 ho.out (Nat.le_refl _) (Nat.le_refl _)
        go_roundw
        case rel => exact ⟨i + 1, v', by omega, by go_num, rfl, hid (by rw [HST.out]; exact o4), hid b4⟩
        case measure => simp [intOf] <;> omega
      · obtain rfl : i = 32 := by omega
        have ho2 := ho.out
        rw [show C.take 32 = C from by rw [HC.out]; exact dl_full _] at ho2
        have hbb := B2.out.trans (hb.out.mono B2.out.size)
        have hl32 : C.length = 32 := by rw [HC.out, HmM.dl_length]
        have e0 : C ++ List.replicate 0 0 = C := by rw [List.replicate_zero, List.append_nil]
        rw [← e0] at ho2
        have O2 := hid ho2
        have BB := hid hbb
        have HL32 := hid hl32
        obtain ⟨A3, c3, e3, _, _, _⟩ := ho2.any
        rw [e0, hl32] at e3
        subst e3
        rw [show ((32 : Nat) : Int) = (32 : Int) from rfl]
        obtain ⟨w3, hw3⟩ : ∃ w3, w3 = wr := ⟨_, rfl⟩
        subst hw3
        have HZ23 : w2.heap.size ≤ w3.heap.size := hzw
        have O2' : Hid (Own 5 .u8 w3 w2.heap.size (.slice A3 32 c3) (C ++ List.replicate 0 0)) := O2
        clear ho2 hbb hl32 e0 ho cr C2
        go_wp2_with fail
        go_loopw [3] (fun u wr => ∃ (m N : Nat) (A : Option Addr) (cp : Nat), u = .slice A N cp ∧ Hid (N = 32 + m) ∧ N ≤ 64 ∧ w2.heap.size ≤ wr.heap.size ∧ Hid (Own 5 .u8 wr w2.heap.size u (C ++ List.replicate m 0)) ∧ Hid (Below w.heap.size w wr)) (fun u _ => 64 - lenOf u)
        case atStart => exact ⟨0, 32, A3, c3, rfl, hid rfl, by omega, HZ23, O2', BB⟩
        case round =>
          obtain ⟨m, N, A, cp, rfl, hN, hN64, hbz, ho, hb⟩ := hrel
          clear O2' BB
          have hlen : (C ++ List.replicate m 0).length = N := by rw [List.length_append, List.length_replicate, HL32.out]; exact hN.out.symm
          have HLEN := hid hlen
          clear hlen
          by_cases hlt : N < 64
          · have tN : (N : Int) < 64 := by omega
            go_wp2_with (at_builtin; (with_reducible apply wappN eltB); rfl; rfl; exact ho.out.alloc _; exact nums_one (x := 0) (B := wr.heap.size + 1) rfl (Nat.lt_succ_self _); rfl; (rw [HLEN.out]; omega); (simp; omega); intro v' w4 o4 g4)
            have b4 := below_grown (hb.out.alloc hb.out.size (.cells #[.int .u8 0] 5)) g4 ho.out B2.out.size (Nat.le_refl _)
            have hz4 := g4.size
            simp only [World.size_alloc] at hz4
            obtain ⟨A4, c4, e4, _, _, _⟩ := o4.any
            rw [List.length_append, HLEN.out, List.length_singleton] at e4
            subst e4
            go_roundw
            case rel => exact ⟨m + 1, N + 1, A4, c4, rfl, hid (by have := hN.out; omega), by omega, by omega, hid (by rw [List.replicate_succ', ← List.append_assoc]; exact o4), hid b4⟩
            case measure => simp [lenOf] <;> omega
          · have tN : decide ((N : Int) < 64) = false := by simp; omega
            have hm : m = 64 - C.length := by rw [HL32.out]; have := hN.out; omega
            have hfin := ho.out.fresh hb.out
            rw [hm] at hfin
            have HF := hid hfin
            clear hfin ho hm
            go_wp2_with fail
            go_ret
            exact HF.out
  · have t0 : decide ((64 : Int) < (kn : Int)) = false := by simp; omega
    have hck : HmM.cutK key = key := by unfold HmM.cutK; rw [if_neg (by rw [hkl]; exact h64)]
    rw [hck] at hcl ⊢
    obtain ⟨C, hC⟩ : ∃ C, C = key := ⟨_, rfl⟩
    rw [← hC] at hcl HK HKL ⊢
    clear hK hkl hk256 hck hC H256
    go_enter Tryd.func32, Tryd.ntmps32
    go_upto_region 9 with (at_builtin; (with_reducible apply wappN_any eltB); rfl; rfl; exact hk0; exact (Own.nil (e := 5) (k := .u8) (w := w) (B := w.heap.size)); exact HK.out.nums; exact HKL.out; (rw [List.length_nil]; omega); exact Nat.le_refl _; intro v1 w3 o3 g3)
    rw [List.nil_append] at o3
    have b3 := below_grown (Below.refl w.heap.size w) g3 (Own.nil (e := 5) (k := .u8) (w := w) (B := w.heap.size)) (Nat.le_refl _) (Nat.le_refl _)
    have e0 : C ++ List.replicate 0 0 = C := by rw [List.replicate_zero, List.append_nil]
    obtain ⟨A3, c3, e3, _, _, _⟩ := o3.any
    rw [HKL.out] at e3
    subst e3
    rw [← e0] at o3
    have O2' := hid o3
    have BB := hid b3
    clear o3 b3 g3 e0
    go_loopw [3] (fun u wr => ∃ (m N : Nat) (A : Option Addr) (cp : Nat), u = .slice A N cp ∧ Hid (N = kn + m) ∧ N ≤ 64 ∧ w.heap.size ≤ wr.heap.size ∧ Hid (Own 5 .u8 wr w.heap.size u (C ++ List.replicate m 0)) ∧ Hid (Below w.heap.size w wr)) (fun u _ => 64 - lenOf u)
    case atStart => exact ⟨0, kn, A3, c3, rfl, hid rfl, by omega, BB.out.size, O2', BB⟩
    case round =>
      obtain ⟨m, N, A, cp, rfl, hN, hN64, hbz, ho, hb⟩ := hrel
      clear O2' BB
      have hlen : (C ++ List.replicate m 0).length = N := by rw [List.length_append, List.length_replicate, HKL.out]; exact hN.out.symm
      have HLEN := hid hlen
      clear hlen
      by_cases hlt : N < 64
      · have tN : (N : Int) < 64 := by omega
        go_wp2_with (at_builtin; (with_reducible apply wappN eltB); rfl; rfl; exact ho.out.alloc _; exact nums_one (x := 0) (B := wr.heap.size + 1) rfl (Nat.lt_succ_self _); rfl; (rw [HLEN.out]; omega); (simp; omega); intro v' w4 o4 g4)
        have b4 := below_grown (hb.out.alloc hb.out.size (.cells #[.int .u8 0] 5)) g4 ho.out (Nat.le_refl _) (Nat.le_refl _)
        have hz4 := g4.size
        simp only [World.size_alloc] at hz4
        obtain ⟨A4, c4, e4, _, _, _⟩ := o4.any
        rw [List.length_append, HLEN.out, List.length_singleton] at e4
        subst e4
        go_roundw
        case rel => exact ⟨m + 1, N + 1, A4, c4, rfl, hid (by have := hN.out; omega), by omega, by omega, hid (by rw [List.replicate_succ', ← List.append_assoc]; exact o4), hid b4⟩
        case measure => simp [lenOf] <;> omega
      · have tN : decide ((N : Int) < 64) = false := by simp; omega
        have hm : m = 64 - C.length := by rw [HKL.out]; have := hN.out; omega
        have hfin := ho.out.fresh hb.out
        rw [hm] at hfin
        have HF := hid hfin
        clear hfin ho hm
        go_wp2_with fail
        go_ret
        exact HF.out
end Go.Proofs.YtnnhnlabkbjacaaDoor
namespace Go.Proofs.YtnnhnlabkbjacaaDoor
open Go.ChangeShapes Go.WideShapes Go.ChangeAt Go.RowKit
attribute [local go_sem] Gives
set_option maxHeartbeats 2000000 in
set_option maxRecDepth 100000 in
theorem rof_any (K : Option Addr) (key : List Nat) (kn kcap : Nat) (hkl : key.length = kn) (hkn : kn ≤ 100000) (hk0 : K = none → kn = 0 ∧ kcap = 0) (hk256 : B256 key)
    (A : Option Addr) (l : List Nat) (n cap : Nat) (hl : l.length = n) (hn : n ≤ 90000) (h0 : A = none → n = 0 ∧ cap = 0) (h256 : B256 l) (w : World) (hK : Byt w w.heap.size K key) (hA : Byt w w.heap.size A l) :
    Calls Tryd.prog 26 #[.slice K kn kcap, .slice A n cap] w fun e w' => e = .returned (.agg (tag (HmM.tag key l))) ∧ Below w.heap.size w w' := by
  have hbl := HmM.blk_length key
  have hb256 := HmM.blk_256 hk256
  have RB := hid fun (w : World) (hK : Byt w w.heap.size K key) => rblock_any K key kn kcap hkl hkn hk0 hk256 w hK
  have htag : HmM.tag key l = ShaM.sum (HmM.pad 92 (HmM.blk key) ++ HmM.dl (ShaM.sum (HmM.pad 54 (HmM.blk key) ++ l))) := rfl
  rw [htag]
  clear htag
  generalize HmM.blk key = bk at *
  obtain ⟨I, hI⟩ : ∃ I, I = HmM.pad 54 bk := ⟨_, rfl⟩
  obtain ⟨O, hO⟩ : ∃ O, O = HmM.pad 92 bk := ⟨_, rfl⟩
  have hIl : I.length = 64 := by rw [hI, HmM.pad_length, hbl]
  have hOl : O.length = 64 := by rw [hO, HmM.pad_length, hbl]
  have hI256 : B256 I := by rw [hI]; exact HmM.pad_256 (by omega) hb256
  have hO256 : B256 O := by rw [hO]; exact HmM.pad_256 (by omega) hb256
  have hIst : ∀ i, i < 64 → I.take (i + 1) = I.take i ++ [bk.getD i 0 ^^^ 54] := fun i hi => by rw [hI]; exact pad_take 54 bk (by rw [hbl]; exact hi)
  have hOst : ∀ i, i < 64 → O.take (i + 1) = O.take i ++ [bk.getD i 0 ^^^ 92] := fun i hi => by rw [hO]; exact pad_take 92 bk (by rw [hbl]; exact hi)
  rw [← hI, ← hO]
  have HK := hid hK
  have HA := hid hA
  have HL := hid hl
  have HBL := hid hbl
  have HB256 := hid hb256
  have HIL := hid hIl
  have HOL := hid hOl
  have HI256 := hid hI256
  have HO256 := hid hO256
  have HIST := hid hIst
  have HOST := hid hOst
  have H256 := hid h256
  clear hI hO hIst hOst hIl hOl hI256 hO256 hK hA hl hbl hb256 h256 hkl hk256
  go_enter Tryd.func26, Tryd.ntmps26
  go_upto_region 1 with fail
  generalize hw1 : World.alloc w _ = w1
  have b1 : Blk w1 w.heap.size 43 (tag fun _ => 0) := by rw [← hw1]; exact Blk.top zlit_tag rfl
  have hb : Below w.heap.size w w1 := by rw [← hw1]; exact (Below.refl _ _).alloc (Nat.le_refl _) _
  clear hw1
  have B1 := hid b1
  have BEL := hid hb
  clear b1 hb
  go_wp2_with fail
  refine (RB.out w1 ((HK.out.below BEL.out (Nat.le_refl _)).more BEL.out.size)).mono ?_
  rintro e w3 ⟨Ab, cb, rfl, _, _, nb, h3⟩
  rw [HBL.out]
  obtain ⟨bb, ob, rfl, hBb, hrb⟩ := nb (by rw [HBL.out]; omega)
  rw [HBL.out] at hrb
  have HRB := hid hrb
  have B3 := hid (B1.out.below h3 B1.out.lt)
  have BEL3 := hid (BEL.out.trans (h3.mono BEL.out.size))
  have hz13 := h3.size
  have hwz : w.heap.size < w3.heap.size := Nat.lt_of_lt_of_le B1.out.lt h3.size
  clear nb hrb h3 B1 BEL RB
  go_wp2_with fail
  go_loopw [6, 7, 8] (fun u1 u2 v wr => ∃ (i : Nat) (vi vo : Value), i ≤ 64 ∧ v = .int .i64 i ∧ u1 = vi ∧ u2 = vo ∧ Hid (Own 5 .u8 wr w3.heap.size vi (I.take i)) ∧ Hid (Own 5 .u8 wr w3.heap.size vo (O.take i)) ∧ Hid (Apart vi vo) ∧ Hid (Below w3.heap.size w3 wr)) (fun _ _ v _ => 64 - (intOf v).toNat)
  case atStart => exact ⟨0, _, _, by omega, rfl, rfl, rfl, hid Own.nil, hid Own.nil, hid (Apart.nil _), hid (Below.refl _ _)⟩
  case round =>
    obtain ⟨i, vi, vo, hi, rfl, rfl, rfl, ho1, ho2, hap, hb⟩ := hrel
    have hzw := hb.out.size
    by_cases hlt : i < 64
    · have ti : (i : Int) < 64 := by omega
      have hIs := HIST.out i hlt
      have hOs := HOST.out i hlt
      have q1 : wr.cell? ⟨bb, ob + i, none⟩ = some (.int .u8 (bk.getD i 0 : Nat)) := (hb.out.cell (p := ⟨bb, ob + i, none⟩) hBb).trans (HRB.out i hlt)
      have hx : bk.getD i 0 < 256 := ShaM.getD_lt (by omega) HB256.out i
      obtain ⟨x, hxx⟩ : ∃ x, x = bk.getD i 0 := ⟨_, rfl⟩
      rw [← hxx] at hIs hOs q1 hx
      have e1 : bits .xor .u8 (x : Int) 54 = ((x ^^^ 54 : Nat) : Int) := u8_xor_nat x 54 hx (by omega)
      have e2 : bits .xor .u8 (x : Int) 92 = ((x ^^^ 92 : Nat) : Int) := u8_xor_nat x 92 hx (by omega)
      obtain ⟨y, hy⟩ : ∃ y, y = x ^^^ 54 := ⟨_, rfl⟩
      obtain ⟨z, hz⟩ : ∃ z, z = x ^^^ 92 := ⟨_, rfl⟩
      rw [← hy] at e1 hIs
      rw [← hz] at e2 hOs
      have HIS := hid hIs
      have HOS := hid hOs
      have HQ := hid fun (w' : World) (h : Below w3.heap.size w3 w') => (h.cell (p := ⟨bb, ob + i, none⟩) hBb).trans (HRB.out i hlt)
      have HXX := hid hxx
      have HLI := hid (show (I.take i).length = i by rw [List.length_take, HIL.out]; omega)
      have HLO := hid (show (O.take i).length = i by rw [List.length_take, HOL.out]; omega)
      clear hIs hOs hxx hy hz
      go_upto_region 8 with (at_builtin; (with_reducible apply wappW eltB); rfl; rfl; (intro h; cases h); exact ho1.out.alloc _; exact nums_one (x := y) (B := wr.heap.size + 1) rfl (Nat.lt_succ_self _); rfl; (rw [HLI.out]; omega); (simp; omega); intro v1 w4 o4 g4 p4)
      have b4 := below_grown (hb.out.alloc hzw (.cells #[.int .u8 (y : Nat)] 5)) g4 ho1.out (Nat.le_refl _) (Nat.le_refl _)
      have k4 := (ho2.out.alloc (.cells #[.int .u8 (y : Nat)] 5)).keep g4 hap.out.symm
      have a4 := hap.out.symm.app (ho2.out.alloc (.cells #[.int .u8 (y : Nat)] 5)) p4
      have q4 := HQ.out w4 b4
      rw [← HXX.out] at q4
      have O4 := hid o4
      have K4 := hid k4
      have A4 := hid a4
      have B4 := hid b4
      have hz4 := b4.size
      clear o4 k4 a4 b4 g4 p4 q1 ho1 ho2
      go_wp2_with (at_builtin; (with_reducible apply wappW eltB); rfl; rfl; (intro h; cases h); exact K4.out.alloc _; exact nums_one (x := z) (B := w4.heap.size + 1) rfl (Nat.lt_succ_self _); rfl; (rw [HLO.out]; omega); (simp; omega); intro v2 w5 o5 g5 p5)
      have b5 := below_grown (B4.out.alloc hz4 (.cells #[.int .u8 (z : Nat)] 5)) g5 K4.out (Nat.le_refl _) (Nat.le_refl _)
      have k5 := (O4.out.alloc (.cells #[.int .u8 (z : Nat)] 5)).keep g5 A4.out.symm
      have a5 := A4.out.symm.app (O4.out.alloc (.cells #[.int .u8 (z : Nat)] 5)) p5
      go_roundw
      case rel => exact ⟨i + 1, v1, v2, by omega, by go_num, rfl, rfl, hid (by rw [HIS.out]; exact k5), hid (by rw [HOS.out]; exact o5), hid a5, hid b5⟩
      case measure => simp [intOf] <;> omega
    · obtain rfl : i = 64 := by omega
      have oi := ho1.out
      have oo := ho2.out
      rw [List.take_of_length_le (by rw [HIL.out]; omega)] at oi
      rw [List.take_of_length_le (by rw [HOL.out]; omega)] at oo
      have OI := hid oi
      have OO := hid oo
      have BR := hid (BEL3.out.trans (hb.out.mono BEL3.out.size))
      have hbz := BR.out.size
      clear oi oo ho1 ho2
      rw [show ((64 : Nat) : Int) = (64 : Int) from rfl]
      go_upto_region 10 with (at_builtin; (with_reducible apply wappW eltB); rfl; rfl; exact h0; exact OI.out; exact ((HA.out.below BR.out (Nat.le_refl _)).more hbz).nums; exact HL.out; (rw [HIL.out]; omega); exact hzw; intro v1 w4 o4 g4 p4)
      have b4 := below_grown hb.out g4 OI.out (Nat.le_refl _) (Nat.le_refl _)
      have k4 := OO.out.keep g4 hap.out.symm
      obtain ⟨A5, c5, e5, _, _, n5⟩ := o4.any
      have hl5 : (I ++ l).length = 64 + n := by rw [List.length_append, HIL.out, HL.out]
      obtain ⟨N, hN⟩ : ∃ N, N = 64 + n := ⟨_, rfl⟩
      rw [← hN] at hl5
      rw [hl5] at e5
      subst e5
      have hA5 : A5 = none → N = 0 ∧ c5 = 0 := fun e => by
        subst e
        exfalso
        obtain ⟨_, _, e', _⟩ := n5 (by rw [hl5]; omega)
        cases e'
      have K4 := hid k4
      have B4 := hid b4
      have N5 := hid n5
      have HA5 := hid hA5
      have HL5 := hid hl5
      have hN9 : N ≤ 100000 := by omega
      clear k4 b4 n5 hA5 hl5 o4 g4 p4 OI OO hN
      go_wp2_with fail
      refine (rsum_any A5 (I ++ l) N c5 HL5.out hN9 HA5.out (HI256.out.append H256.out) w4 N5.out.byt).mono ?_
      rintro e w6 ⟨rfl, h6⟩
      obtain ⟨D, hD⟩ : ∃ D, D = ShaM.sum (I ++ l) := ⟨_, rfl⟩
      have hD256 : ∀ k, D k < 256 := fun k => by rw [hD]; exact HmM.sum_256 _ k
      rw [← hD]
      have HD := hid hD
      have HD256 := hid hD256
      have hz6 := h6.size
      have K6 := hid (K4.out.below h6)
      have B6 := hid (B4.out.trans (h6.mono B4.out.size))
      have hz46 := B6.out.size
      clear hD hD256 h6 K4 B4 N5
      go_upto_region 11 with ((with_reducible apply stt); rfl; rfl; exact Blk.top zlit_tag rfl)
      generalize hw7 : World.setRow _ _ _ = w7
      obtain ⟨g, hg⟩ : ∃ g, g = w6.heap.size := ⟨_, rfl⟩
      have d7 : Blk w7 g 43 (tag D) := by rw [← hw7, hg]; exact (Blk.top zlit_tag rfl).setRow_same _
      have b67 : Below w6.heap.size w6 w7 := by rw [← hw7]; exact below_setRow ((Below.refl _ _).alloc (Nat.le_refl _) _) (Nat.le_refl _) _
      have K7 := hid (K6.out.below b67)
      have B7 := hid (B6.out.trans (b67.mono hz46))
      have hne : u7.ownBlock ≠ some g := fun e => by
        have := (World.ownsRow.lt K6.out g e).2
        omega
      have hgz : w3.heap.size ≤ g := by omega
      rw [← hg]
      have D7 := hid d7
      have HNE := hid hne
      clear hw7 b67 d7 hne hg K6 B6
      have k7 := K7.out
      rw [show O = O ++ (HmM.dl D).take 0 by simp] at k7
      have K70 := hid k7
      clear k7 K7
      go_wp2_with fail
      go_loopw [7, 10] (fun u v wr => ∃ (i : Nat) (vo : Value), i ≤ 32 ∧ v = .int .i64 i ∧ u = vo ∧ Hid (Own 5 .u8 wr w3.heap.size vo (O ++ (HmM.dl D).take i)) ∧ Hid (vo.ownBlock ≠ some g) ∧ Hid (Blk wr g 43 (tag D)) ∧ Hid (Below w3.heap.size w3 wr)) (fun _ v _ => 32 - (intOf v).toNat)
      case atStart => exact ⟨0, _, by omega, rfl, rfl, K70, HNE, D7, B7⟩
      case round =>
        clear K70 HNE D7 B7
        obtain ⟨i, vo, hi, rfl, rfl, ho, hne, hd, hb⟩ := hrel
        have hzw := hb.out.size
        by_cases hlt : i < 32
        · have ti : (i : Int) < 32 := by omega
          have q1 := (hd.out.cell i).trans (get_tag hlt)
          have hst : O ++ (HmM.dl D).take (i + 1) = (O ++ (HmM.dl D).take i) ++ [D i] := by rw [dl_take _ hlt, List.append_assoc]
          have hlen : (O ++ (HmM.dl D).take i).length = 64 + i := by rw [List.length_append, HOL.out, List.length_take, HmM.dl_length]; omega
          have hx := HD256.out i
          generalize D i = x at *
          have HST := hid hst
          have HLEN := hid hlen
          clear hst hlen
          go_wp2_with (at_builtin; (with_reducible apply wappW eltB); rfl; rfl; (intro h; cases h); exact ho.out.alloc _; exact nums_one (x := x) (B := wr.heap.size + 1) rfl (Nat.lt_succ_self _); rfl; (rw [HLEN.out]; omega); (simp; omega); intro v' w4 o4 g4 p4)
          have b4 := below_grown (hb.out.alloc hzw (.cells #[.int .u8 (x : Nat)] 5)) g4 ho.out (Nat.le_refl _) (Nat.le_refl _)
          have d4 := (hd.out.alloc (.cells #[.int .u8 (x : Nat)] 5)).apart g4 hne.out
          have n4 : v'.ownBlock ≠ some g := by
            rcases p4 with p4 | p4
            · rw [p4]; exact hne.out
            · rw [p4]; intro e; have := hd.out.lt; simp at e; omega
          go_roundw
          case rel => exact ⟨i + 1, v', by omega, by go_num, rfl, hid (by rw [HST.out]; exact o4), hid n4, hid d4, hid b4⟩
          case measure => simp [intOf] <;> omega
        · obtain rfl : i = 32 := by omega
          have o9 := ho.out
          rw [dl_full] at o9
          obtain ⟨A9, c9, e9, _, _, n9⟩ := o9.any
          have hl9 : (O ++ HmM.dl D).length = 96 := by rw [List.length_append, HOL.out, HmM.dl_length]
          rw [hl9] at e9
          subst e9
          have hA9 : A9 = none → (96 : Nat) = 0 ∧ c9 = 0 := fun e => by
            subst e
            exfalso
            obtain ⟨_, _, e', _⟩ := n9 (by rw [hl9]; omega)
            cases e'
          have N9 := hid n9
          have HA9 := hid hA9
          have HL9 := hid hl9
          have BR := hid (BEL3.out.trans (hb.out.mono BEL3.out.size))
          have b9 := B3.out.below hb.out hwz
          have B9 := hid b9
          clear n9 hA9 hl9 o9 ho hd b9
          go_wp2_with fail
          refine (rsum_any A9 (O ++ HmM.dl D) 96 c9 HL9.out (by omega) HA9.out (HO256.out.append (HmM.dl_256 HD256.out)) wr N9.out.byt).mono ?_
          rintro e w5 ⟨rfl, h5⟩
          have c1 := B9.out.below h5 B9.out.lt
          have b5 := BR.out.trans (h5.mono BR.out.size)
          clear h5
          go_wp2_with ((with_reducible apply stt); rfl; rfl; exact c1)
          apply ret_row Tryd.results26
          · exact c1.setRow_same _
          · exact Tryd.underlying43
          · rfl
          · exact (info_tag.trans (by rw [size_tag]))
          · rfl
          · rfl
          exact ⟨by rw [HD.out], below_setRow b5 (Nat.le_refl _) _⟩
end Go.Proofs.YtnnhnlabkbjacaaDoor
namespace Go.Proofs.YtnnhnlabkbjacaaDoor
open Go.ChangeShapes Go.WideShapes Go.ChangeAt Go.RowKit
attribute [local go_sem] Gives
set_option maxHeartbeats 400000 in
set_option maxRecDepth 100000 in
theorem rbytes_any (f : Nat → Nat) (hf : ∀ k, f k < 256) (w : World) :
    Calls Tryd.prog 27 #[.agg (tag f)] w fun e w' => ∃ v, e = .returned v ∧ Own 5 .u8 w' w.heap.size v (HmM.dl f) ∧ Below w.heap.size w w' := by
  have HF := hid hf
  clear hf
  go_enter Tryd.func27, Tryd.ntmps27
  go_upto_region 1 with fail
  generalize hw1 : World.alloc w _ = w1
  have b1 : Blk w1 w.heap.size 43 (tag f) := by rw [← hw1]; exact Blk.top rfl rfl
  have hb : Below w.heap.size w w1 := by rw [← hw1]; exact (Below.refl _ _).alloc (Nat.le_refl _) _
  clear hw1
  have B1 := hid b1
  have BEL := hid hb
  have hgl := b1.lt
  clear b1 hb
  go_wp2_with fail
  go_loopw [3, 4] (fun u v wr => ∃ (i : Nat) (vo : Value), i ≤ 32 ∧ v = .int .i64 i ∧ u = vo ∧ Hid (Own 5 .u8 wr w1.heap.size vo ((HmM.dl f).take i)) ∧ Hid (Below w1.heap.size w1 wr)) (fun _ v _ => 32 - (intOf v).toNat)
  case atStart => exact ⟨0, _, by omega, rfl, rfl, hid Own.nil, hid (Below.refl _ _)⟩
  case round =>
    obtain ⟨i, vo, hi, rfl, rfl, ho, hb⟩ := hrel
    have hzw := hb.out.size
    by_cases hlt : i < 32
    · have ti : (i : Int) < 32 := by omega
      have q1 := ((B1.out.below hb.out hgl).cell i).trans (get_tag hlt)
      have hst := dl_take f hlt
      have hlen : ((HmM.dl f).take i).length = i := by rw [List.length_take, HmM.dl_length]; omega
      have hx := HF.out i
      generalize f i = x at *
      have HST := hid hst
      have HLEN := hid hlen
      clear hst hlen
      go_wp2_with (at_builtin; (with_reducible apply wappN eltB); rfl; rfl; exact ho.out.alloc _; exact nums_one (x := x) (B := wr.heap.size + 1) rfl (Nat.lt_succ_self _); rfl; (rw [HLEN.out]; omega); (simp; omega); intro v' w4 o4 g4)
      have b4 := below_grown (hb.out.alloc hzw (.cells #[.int .u8 (x : Nat)] 5)) g4 ho.out (Nat.le_refl _) (Nat.le_refl _)
      go_roundw
      case rel => exact ⟨i + 1, v', by omega, by go_num, rfl, hid (by rw [HST.out]; exact o4), hid b4⟩
      case measure => simp [intOf] <;> omega
    · obtain rfl : i = 32 := by omega
      have o9 := ho.out
      rw [dl_full] at o9
      have hfin := hid (BEL.out.trans (hb.out.mono BEL.out.size))
      have O9 := hid (o9.lower BEL.out.size)
      clear o9 ho
      go_wp2_with fail
      go_ret
      exact ⟨_, rfl, O9.out, hfin.out⟩
end Go.Proofs.YtnnhnlabkbjacaaDoor
namespace Go.Proofs.YtnnhnlabkbjacaaDoor
open Go.ChangeShapes Go.WideShapes Go.ChangeAt Go.RowKit
attribute [local go_sem] Gives
theorem dl_set (F : Nat → Nat) (k x : Nat) : (HmM.dl F).set k x = HmM.dl fun j => if j = k then x else F j := by
  apply List.ext_getElem?
  intro j
  rw [List.getElem?_set]
  simp only [HmM.dl, List.length_map, List.length_range, List.getElem?_map]
  by_cases e : k = j
  · subst e
    by_cases h : k < 32
    · rw [if_pos rfl, if_pos h, List.getElem?_range h]; simp
    · rw [if_pos rfl, if_neg h, List.getElem?_eq_none (by simp; omega)]; rfl
  · rw [if_neg e]
    by_cases h : j < 32
    · rw [List.getElem?_range h]; simp [Ne.symm e]
    · rw [List.getElem?_eq_none (by simp; omega)]; rfl
theorem dl_mix (F G : Nat → Nat) (k : Nat) : (HmM.dl (mixT k F G)).set k (F k ^^^ G k) = HmM.dl (mixT (k + 1) F G) := by
  rw [dl_set]
  refine HmM.dl_congr fun j _ => ?_
  unfold mixT
  by_cases e : j = k
  · subst e; rw [if_pos rfl, if_pos (by omega)]
  · rw [if_neg e]
    by_cases h : j < k
    · rw [if_pos h, if_pos (by omega)]
    · rw [if_neg h, if_neg (by omega)]
theorem dl_mix_full (F G : Nat → Nat) : HmM.dl (mixT 32 F G) = HmM.dl fun k => F k ^^^ G k := HmM.dl_congr fun j hj => by unfold mixT; rw [if_pos hj]
set_option maxHeartbeats 1000000 in
set_option maxRecDepth 100000 in
theorem rblkp_any (K : Option Addr) (key : List Nat) (kn kcap : Nat) (A : Option Addr) (l : List Nat) (n cap rounds x : Nat) (hkn : kn ≤ 80000) (hn : n ≤ 80000) (hr : 1 ≤ rounds) (hr2 : rounds ≤ 100000) (hx : x < 256) (w : World) (hK : Arg w K key kn kcap) (hA : Arg w A l n cap) :
    Calls Tryd.prog 23 #[.slice K kn kcap, .slice A n cap, .int .i64 rounds, .int .i64 x] w fun e w' => ∃ v, e = .returned v ∧ Own 5 .u8 w' w.heap.size v (HmM.dl (PbM.bl key l rounds x)) ∧ Below w.heap.size w w' := by
  have HK := hid hK
  have HA := hid hA
  obtain ⟨T, hT⟩ : ∃ T, T = PbM.fst key l x := ⟨_, rfl⟩
  obtain ⟨R, hR⟩ : ∃ R, R = rounds - 1 := ⟨_, rfl⟩
  have hbl : PbM.bl key l rounds x = PbM.acc key T R := by rw [hT, hR]; rfl
  rw [hbl]
  have hT256 : ∀ k, T k < 256 := fun k => by rw [hT]; exact PbM.fst_256 _ _ _ k
  have HT256 := hid hT256
  have HT := hid hT
  have HR := hid hR
  have hR1 : R + 1 = rounds := by omega
  have HR1 := hid hR1
  have hRb : R ≤ 100000 := by omega
  have e1 : (x : Int) / 16777216 = 0 := by omega
  have e2 : (x : Int) / 65536 = 0 := by omega
  have e3 : (x : Int) / 256 = 0 := by omega
  have e4 : IntKind.u8.wrap (x : Int) = (x : Int) := IntWalk.u8_in _ (by omega)
  clear hK hA hT hbl hT256 hR hR1
  go_enter Tryd.func23, Tryd.ntmps23
  go_upto_region 3 with (at_builtin; (with_reducible apply wappN_any eltB); rfl; rfl; exact HA.out.none; exact (Own.nil (e := 5) (k := .u8) (w := w) (B := w.heap.size)); exact HA.out.byt.nums; exact HA.out.len; (rw [List.length_nil]; omega); exact Nat.le_refl _; intro v1 w1 o1 g1)
  have b1 := below_grown (Below.refl w.heap.size w) g1 (Own.nil (e := 5) (k := .u8) (w := w) (B := w.heap.size)) (Nat.le_refl _) (Nat.le_refl _)
  rw [List.nil_append] at o1
  have O1 := hid o1
  have B1 := hid b1
  have hz1 := b1.size
  clear o1 b1 g1
  go_upto_region 4 with (at_builtin; (with_reducible apply wappN eltB); rfl; rfl; exact O1.out.alloc _; exact (byt_lit (l := [0, 0, 0, x]) (Blk.top rfl rfl) (Nat.lt_succ_self _) (lit_ok (by rfl))).nums; rfl; (rw [HA.out.len]; omega); (simp; omega); intro v2 w2 o2 g2)
  have b2 := below_grown (B1.out.alloc hz1 (.cells #[.int .u8 0, .int .u8 0, .int .u8 0, .int .u8 (x : Nat)] 5)) g2 O1.out (Nat.le_refl _) (Nat.le_refl _)
  have h2256 : B256 (l ++ [0, 0, 0, x]) := fun y hy => by
    rcases List.mem_append.1 hy with hy | hy
    · exact HA.out.b256 y hy
    · simp only [List.mem_cons, List.not_mem_nil, or_false] at hy; omega
  obtain ⟨A2, c2, e2', a2⟩ := o2.arg h2256
  have hl2 : (l ++ [0, 0, 0, x]).length = n + 4 := by rw [List.length_append, HA.out.len]; rfl
  rw [hl2] at e2' a2
  subst e2'
  have A2' := hid a2
  have B2 := hid b2
  have HK2 := hid (HK.out.on b2)
  clear o2 b2 g2 a2 hl2 h2256 O1 B1 hz1 e1 e2 e3 e4
  go_wp2_with fail
  refine (rof_any K key kn kcap HK2.out.len (by omega) HK2.out.none HK2.out.b256 A2 (l ++ [0, 0, 0, x]) (n + 4) c2 A2'.out.len (by omega) A2'.out.none A2'.out.b256 w2 HK2.out.byt A2'.out.byt).mono ?_
  rintro e w5 ⟨rfl, h5⟩
  rw [show HmM.tag key (l ++ [0, 0, 0, x]) = T from HT.out.symm]
  have B5 := hid (B2.out.trans (h5.mono B2.out.size))
  have hz5 := B5.out.size
  clear h5 HK2 A2' B2 HT
  go_upto_region 5 with ((with_reducible apply stt); rfl; rfl; exact Blk.top zlit_tag rfl)
  generalize hw6 : World.setRow _ _ _ = w6
  obtain ⟨g6, hg6⟩ : ∃ g, g = w5.heap.size := ⟨_, rfl⟩
  have d6 : Blk w6 g6 43 (tag T) := by rw [← hw6, hg6]; exact (Blk.top zlit_tag rfl).setRow_same _
  have b56 : Below w5.heap.size w5 w6 := by rw [← hw6]; exact below_setRow ((Below.refl _ _).alloc (Nat.le_refl _) _) (Nat.le_refl _) _
  have hg06 : w.heap.size ≤ g6 := by rw [hg6]; exact hz5
  rw [← hg6]
  have B6 := hid (B5.out.trans (b56.mono hz5))
  have D6 := hid d6
  have hz6 := B6.out.size
  have hg6l := d6.lt
  clear hw6 b56 hg6 B5 hz5
  go_wp2_with ((with_reducible apply ldt); rfl; exact d6)
  clear d6
  refine (rbytes_any T HT256.out w6).mono ?_
  rintro e w7 ⟨v7, rfl, o7, h7⟩
  obtain ⟨g7, c7, e7, hb7, _, hc71, hc72, _⟩ := o7.at (by rw [HmM.dl_length]; omega)
  rw [HmM.dl_length] at e7
  subst e7
  have O7 := hid o7
  have E6 := hid (D6.out.below h7 hg6l)
  have B7 := hid (B6.out.trans (h7.mono hz6))
  have hg67 : g6 < g7 := Nat.lt_of_lt_of_le hg6l hb7
  have hwg7 : w.heap.size ≤ g7 := by omega
  obtain ⟨Bs, hBs⟩ : ∃ B, B = w6.heap.size := ⟨_, rfl⟩
  rw [← hBs] at O7 hb7 hg6l
  have hBsw : w.heap.size ≤ Bs := by omega
  clear o7 h7 B6 D6 hz6 hBs HA
  go_wp2_with fail
  go_loopw [12] (fun v wr => ∃ N j : Nat, Hid (N = j + 2) ∧ j ≤ R ∧ N ≤ R + 2 ∧ v = .int .i64 N ∧ Hid (Blk wr g6 43 (tag (PbM.un key T j))) ∧ Hid (Own 5 .u8 wr Bs (.slice (some ⟨g7, 0, none⟩) 32 c7) (HmM.dl (PbM.acc key T j))) ∧ Hid (Below w.heap.size w wr)) (fun v _ => R + 2 - (intOf v).toNat)
  case atStart => exact ⟨2, 0, hid rfl, by omega, by omega, rfl, E6, O7, B7⟩
  case round =>
    clear E6 O7 B7
    obtain ⟨N, j, hN, hj, hN2, rfl, q6, q7, hb⟩ := hrel
    by_cases hlt : N ≤ rounds
    · have tj : (N : Int) ≤ (rounds : Int) := by omega
      have hjR : j < R := by have := hN.out; have := HR1.out; omega
      have hNR : N < R + 2 := by have := hN.out; omega
      have hU := PbM.un_256 (key := key) HT256.out j
      have hF := PbM.acc_256 (key := key) HT256.out j
      have hG := PbM.un_256 (key := key) HT256.out (j + 1)
      have hun : PbM.un key T (j + 1) = HmM.tag key (HmM.dl (PbM.un key T j)) := rfl
      have hacc : PbM.acc key T (j + 1) = fun k => PbM.acc key T j k ^^^ PbM.un key T (j + 1) k := rfl
      obtain ⟨U, hU0⟩ : ∃ U, U = PbM.un key T j := ⟨_, rfl⟩
      obtain ⟨F, hF0⟩ : ∃ F, F = PbM.acc key T j := ⟨_, rfl⟩
      obtain ⟨G, hG0⟩ : ∃ G, G = PbM.un key T (j + 1) := ⟨_, rfl⟩
      rw [← hU0] at q6 hun hU
      rw [← hF0] at q7 hacc hF
      rw [← hG0] at hun hacc hG
      have HUN := hid hun
      have HACC := hid hacc
      have HF := hid hF
      have HG := hid hG
      have HU := hid hU
      have HG0 := hid hG0
      have q6' := q6.out
      clear hun hacc hF hG hU hU0 hF0 hG0
      go_wp2_with ((with_reducible apply ldt); rfl; exact q6')
      refine (rbytes_any U HU.out wr).mono ?_
      rintro e w8 ⟨v8, rfl, o8, h8⟩
      obtain ⟨A8, c8, e8, a8⟩ := o8.arg (HmM.dl_256 HU.out)
      rw [HmM.dl_length] at e8 a8
      subst e8
      have A8' := hid a8
      have B8 := hid (hb.out.trans (h8.mono hb.out.size))
      have K8 := hid (HK.out.on B8.out)
      have r6 := hid (q6.out.below h8 q6.out.lt)
      have r7 := hid (q7.out.below h8)
      clear o8 a8 h8 q6 q7 q6' hb
      go_wp2_with fail
      refine (rof_any K key kn kcap K8.out.len (by omega) K8.out.none K8.out.b256 A8 (HmM.dl U) 32 c8 A8'.out.len (by omega) A8'.out.none A8'.out.b256 w8 K8.out.byt A8'.out.byt).mono ?_
      rintro e w9 ⟨rfl, h9⟩
      rw [← HUN.out]
      have B9 := hid (B8.out.trans (h9.mono B8.out.size))
      have s6 := r6.out.below h9 r6.out.lt
      have S7 := hid (r7.out.below h9)
      clear h9 r6 r7 B8 K8 A8' HUN
      go_upto_region 11 with ((with_reducible apply stt); rfl; rfl; exact s6)
      generalize hwa : World.setRow _ _ _ = wa
      have d6 : Blk wa g6 43 (tag G) := by rw [← hwa]; exact s6.setRow_same _
      have d7 : Own 5 .u8 wa Bs (.slice (some ⟨g7, 0, none⟩) 32 c7) (HmM.dl (mixT 0 F G)) := by
        rw [← hwa, mixT_zero]
        exact S7.out.other (by omega)
      have b9 : Below w.heap.size w wa := by rw [← hwa]; exact below_setRow B9.out hg06 _
      have D6 := hid d6
      have D7 := hid d7
      have BA := hid b9
      clear hwa d6 d7 b9 s6 S7 B9
      go_wp2_with fail
      go_loopw [14] (fun v wk => ∃ k : Nat, k ≤ 32 ∧ v = .int .i64 k ∧ Hid (Blk wk g6 43 (tag G)) ∧ Hid (Own 5 .u8 wk Bs (.slice (some ⟨g7, 0, none⟩) 32 c7) (HmM.dl (mixT k F G))) ∧ Hid (Below w.heap.size w wk)) (fun v _ => 32 - (intOf v).toNat)
      case atStart => exact ⟨0, by omega, rfl, D6, D7, BA⟩
      case round =>
        clear D6 D7 BA
        obtain ⟨k, hk, rfl, q6, q7, hb⟩ := hrel
        by_cases hk2 : k < 32
        · have tk : (k : Int) < 32 := by omega
          have Q6 := hid ((q6.out.cell k).trans (get_tag hk2))
          obtain ⟨gx, cx, ex, _, _, _, _, hcell⟩ := q7.out.at (by rw [HmM.dl_length]; omega)
          cases ex
          obtain ⟨q7c, q7f⟩ := hcell k (by rw [HmM.dl_length]; exact hk2)
          rw [HmM.dl_get _ hk2, mixT_at] at q7c
          have Q7 := hid q7c
          have hFk := HF.out k
          have hGk := HG.out k
          have EX := hid (u8_xor_nat (F k) (G k) hFk hGk)
          clear q7c hcell
          go_wp2_with fail
          refine wp_region_tail (C := Drew wr) 11 (by kernel_rfl) (by kernel_rfl) (by kernel_rfl) (Drew.refl _) ?_
          simp only [List.take_succ_cons, List.take_zero, List.drop_succ_cons, List.drop_zero]
          apply wpK_val
          · rfl
          · intro w' hw'
            go_simp
            first | exact rfl | exact ⟨rfl, hw'⟩
          simp only [Act.put, List.setIfInBounds_toArray, List.set_cons_succ, List.set_cons_zero]
          apply wpK_val
          · rfl
          · intro w' hw'
            go_simp
            first | exact rfl | exact ⟨rfl, hw'⟩
          simp only [Act.put, List.setIfInBounds_toArray, List.set_cons_succ, List.set_cons_zero]
          apply wpK_val
          · rfl
          · intro w' hw'
            go_simp
            first | exact rfl | exact ⟨rfl, hw'⟩
          simp only [Act.put, List.setIfInBounds_toArray, List.set_cons_succ, List.set_cons_zero]
          apply wpK_val
          · rfl
          · intro w' hw'
            go_simp
            first | exact rfl | exact ⟨rfl, hw'⟩
          simp only [Act.put, List.setIfInBounds_toArray, List.set_cons_succ, List.set_cons_zero]
          apply wpK_val
          · rfl
          · intro w' hw'
            go_simp
            first | exact rfl | exact ⟨rfl, hw'⟩
          simp only [Act.put, List.setIfInBounds_toArray, List.set_cons_succ, List.set_cons_zero]
          apply wpK_val
          · rfl
          · intro w' hw'
            have hcell := hw'.cell Q7.out
            go_simp
            first | exact rfl | exact ⟨rfl, hw'⟩
          simp only [Act.put, List.setIfInBounds_toArray, List.set_cons_succ, List.set_cons_zero]
          apply wpK_val
          · rfl
          · intro w' hw'
            go_simp
            first | exact rfl | exact ⟨rfl, hw'⟩
          simp only [Act.put, List.setIfInBounds_toArray, List.set_cons_succ, List.set_cons_zero]
          apply wpK_val
          · rfl
          · intro w' hw'
            go_simp
            first | exact rfl | exact ⟨rfl, hw'⟩
          simp only [Act.put, List.setIfInBounds_toArray, List.set_cons_succ, List.set_cons_zero]
          apply wpK_val
          · rfl
          · intro w' hw'
            have hcell := hw'.cell Q6.out
            go_simp
            first | exact rfl | exact ⟨rfl, hw'⟩
          simp only [Act.put, List.setIfInBounds_toArray, List.set_cons_succ, List.set_cons_zero]
          apply wpK_val
          · rfl
          · intro w' hw'
            have h1 : _ := EX.out
            go_simp
            first | exact rfl | exact ⟨rfl, hw'⟩
          simp only [Act.put, List.setIfInBounds_toArray, List.set_cons_succ, List.set_cons_zero]
          apply wpK_val
          · rfl
          · intro w' hw'
            go_simp
            first | exact rfl | exact ⟨rfl, hw'⟩
          simp only [Act.put, List.setIfInBounds_toArray, List.set_cons_succ, List.set_cons_zero]
          refine wpK_nil fun w5 hw5 => ?_
          have r6 := hid (hw5.blk q6.out)
          have r7 := hid (q7.out.heap hw5.heap)
          have rb := hid (hw5.below hb.out)
          obtain ⟨gx, cx, ex, _, _, _, _, hcell⟩ := r7.out.at (by rw [HmM.dl_length]; omega)
          cases ex
          obtain ⟨c7', f7'⟩ := hcell k (by rw [HmM.dl_length]; exact hk2)
          clear q6 q7 hb q7f Q6 Q7 EX hFk hGk hw5 hcell
          go_wp2_with fail
          go_roundw
          case rel => exact ⟨k + 1, by omega, by go_num, hid (r6.out.setCell_other (by show g7 ≠ g6; omega) _), hid (by rw [← dl_mix]; exact r7.out.put (by rw [HmM.dl_length]; exact hk2)), hid (Own.putBelow rb.out hwg7)⟩
          case measure => simp [intOf]; omega
        · have tk : decide ((k : Int) < 32) = false := by simp; omega
          obtain rfl : k = 32 := by omega
          have r7 := q7.out
          rw [dl_mix_full, ← HACC.out] at r7
          have R7 := hid r7
          have R6 := q6.out
          rw [HG0.out] at R6
          have R6' := hid R6
          clear r7 q7 R6 q6
          go_wp2_with fail
          go_roundw
          case rel => exact ⟨N + 1, j + 1, hid (by have := hN.out; omega), by omega, by omega, by go_num, R6', R7, hb⟩
          case measure => simp [intOf]; omega
    · have tj : decide ((N : Int) ≤ (rounds : Int)) = false := by simp; omega
      obtain rfl : j = R := by have := hN.out; have := HR1.out; omega
      have OF := hid (q7.out.lower hBsw)
      clear q6 q7
      go_wp2_with fail
      go_ret
      exact ⟨_, rfl, OF.out, hb.out⟩
set_option maxHeartbeats 400000 in
theorem rkey_bad (K : Option Addr) (kn kcap : Nat) (A : Option Addr) (n cap : Nat) (rounds size : Int) (h : rounds < 1 ∨ 4096 < rounds ∨ size < 1 ∨ 128 < size) (w : World) :
    Calls Tryd.prog 12 #[.slice K kn kcap, .slice A n cap, .int .i64 rounds, .int .i64 size] w fun e w' => e = .returned (.tuple #[.slice none 0 0, .int .i64 2]) ∧ w = w' := by
  go_enter Tryd.func12, Tryd.ntmps12
  by_cases h1 : rounds < 1
  · have t1 : decide (rounds < 1) = true := decide_eq_true h1
    clear h
    go_wp2_with fail
    go_ret2
    exact ⟨rfl, rfl⟩
  · have t1 : decide (rounds < 1) = false := decide_eq_false h1
    by_cases h2 : 4096 < rounds
    · have t2 : decide ((4096 : Int) < rounds) = true := decide_eq_true h2
      clear h h1
      go_wp2_with fail
      go_ret2
      exact ⟨rfl, rfl⟩
    · have t2 : decide ((4096 : Int) < rounds) = false := decide_eq_false h2
      by_cases h3 : size < 1
      · have t3 : decide (size < 1) = true := decide_eq_true h3
        clear h h1 h2
        go_wp2_with fail
        go_ret2
        exact ⟨rfl, rfl⟩
      · have t3 : decide (size < 1) = false := decide_eq_false h3
        have t4 : decide ((128 : Int) < size) = true := decide_eq_true (by omega)
        clear h h1 h2 h3
        go_wp2_with fail
        go_ret2
        exact ⟨rfl, rfl⟩
/-- The beginning of a slice of the call's own. -/
theorem Own.cut {e : TypeId} {k : IntKind} {w : World} {B N cap m : Nat} {A : Option Addr} {l : List Nat} (h : Own e k w B (.slice A N cap) l) (hm : m ≤ l.length) (h0 : 0 < m) : Own e k w B (.slice A m cap) (l.take m) := by
  rcases h.2 with ⟨_, hl⟩ | ⟨g, cap2, cur, e', hB, hg, hnc, hcm, hcs, ht⟩
  · omega
  · simp only [Value.slice.injEq] at e'
    obtain ⟨rfl, rfl, rfl⟩ := e'
    have hl : (l.take m).length = m := by rw [List.length_take]; omega
    refine ⟨by rw [nums_length, Nat.mul_one], .inr ⟨g, cap, cur, by rw [hl], hB, hg, by rw [hl]; omega, hcm, hcs, ?_⟩⟩
    rw [Nat.mul_one] at ht ⊢
    rw [hl, show m = min m l.length by omega, ← List.take_take, ht]
    unfold nums
    rw [List.map_take, show min m l.length = m by omega]
set_option maxHeartbeats 1000000 in
set_option maxRecDepth 100000 in
theorem rkey_any (K : Option Addr) (key : List Nat) (kn kcap : Nat) (A : Option Addr) (l : List Nat) (n cap rounds size : Nat) (hkn : kn ≤ 80000) (hn : n ≤ 80000) (hr : 1 ≤ rounds) (hr2 : rounds ≤ 4096) (hs : 1 ≤ size) (hs2 : size ≤ 128) (w : World) (hK : Arg w K key kn kcap) (hA : Arg w A l n cap) :
    Calls Tryd.prog 12 #[.slice K kn kcap, .slice A n cap, .int .i64 rounds, .int .i64 size] w fun e w' => ∃ v, e = .returned (.tuple #[v, .int .i64 0]) ∧ Own 5 .u8 w' w.heap.size v (PbM.key key l rounds size) ∧ Below w.heap.size w w' := by
  have HK := hid hK
  have HA := hid hA
  have t1 : decide ((rounds : Int) < 1) = false := by simp; omega
  have t2 : decide ((4096 : Int) < (rounds : Int)) = false := by simp; omega
  have t3 : decide ((size : Int) < 1) = false := by simp; omega
  have t4 : decide ((128 : Int) < (size : Int)) = false := by simp; omega
  clear hK hA
  go_enter Tryd.func12, Tryd.ntmps12
  go_wp2_with fail
  clear t1 t2 t3 t4
  go_loopw [10, 11] (fun u v wr => ∃ (i j q : Nat) (vo : Value), u = vo ∧ v = .int .i64 i ∧ Hid (i = j + 1) ∧ j ≤ 4 ∧ i ≤ 5 ∧ Hid (q = min j ((size + 31) / 32)) ∧ Hid (Own 5 .u8 wr w.heap.size vo (PbM.cat key l rounds q)) ∧ Hid (Below w.heap.size w wr)) (fun _ v _ => 5 - (intOf v).toNat)
  case atStart => exact ⟨1, 0, 0, _, rfl, rfl, hid rfl, by omega, by omega, hid (by omega), hid Own.nil, hid (Below.refl _ _)⟩
  case round =>
    obtain ⟨i, j, q, vo, rfl, rfl, hij, hj, hi5, hq, ho, hb⟩ := hrel
    by_cases hlt : i ≤ 4
    · have ti : (i : Int) ≤ 4 := by omega
      have e1 : IntKind.i64.wrap ((i : Int) - 1) = (j : Int) := wr_nat (by have := hij.out; omega) (by omega)
      by_cases hgo : 32 * j < size
      · have tg : 32 * (j : Int) < (size : Int) := by omega
        have K1 := hid (HK.out.on hb.out)
        have A1 := hid (HA.out.on hb.out)
        have hqj : q = j := by have := hq.out; omega
        have HQJ := hid hqj
        have hi256 : i < 256 := by omega
        clear hqj
        go_wp2_with fail
        refine (rblkp_any K key kn kcap A l n cap rounds i hkn hn hr (by omega) hi256 wr K1.out A1.out).mono ?_
        rintro e w5 ⟨v5, rfl, o5, h5⟩
        obtain ⟨A5, c5, e5, a5⟩ := o5.arg (HmM.dl_256 (PbM.bl_256 _ _ _ _))
        rw [HmM.dl_length] at e5 a5
        subst e5
        have A5' := hid a5
        have O5 := hid (ho.out.below h5)
        have B5 := hid (hb.out.trans (h5.mono hb.out.size))
        clear o5 a5 h5 K1 A1 ho hb e1
        go_wp2_with (at_builtin; (with_reducible apply wappN_any eltB); rfl; rfl; exact A5'.out.none; exact O5.out; exact A5'.out.byt.nums; exact A5'.out.len; (rw [PbM.cat_length]; have := hq.out; omega); exact B5.out.size; intro v7 w7 o7 g7)
        have b7 := below_grown B5.out g7 O5.out (Nat.le_refl _) (Nat.le_refl _)
        have hst : PbM.cat key l rounds q ++ HmM.dl (PbM.bl key l rounds i) = PbM.cat key l rounds (j + 1) := by rw [HQJ.out, hij.out]; rfl
        rw [hst] at o7
        go_roundw
        case rel => exact ⟨i + 1, j + 1, j + 1, v7, rfl, by go_num, hid (by have := hij.out; omega), by have := hij.out; omega, by omega, hid (by omega), hid o7, hid b7⟩
        case measure => simp [intOf]; omega
      · have tg : decide (32 * (j : Int) < (size : Int)) = false := by simp; omega
        go_wp2_with fail
        go_roundw
        case rel => exact ⟨i + 1, j + 1, q, _, rfl, by go_num, hid (by have := hij.out; omega), by have := hij.out; omega, by omega, hid (by have := hq.out; omega), ho, hb⟩
        case measure => simp [intOf]; omega
    · have ti : decide ((i : Int) ≤ 4) = false := by simp; omega
      have hj4 : j = 4 := by have := hij.out; omega
      have hqs : size ≤ 32 * q := by have := hq.out; omega
      have hq4 : q ≤ 4 := by have := hq.out; omega
      obtain ⟨Ar, cr, er, ar⟩ := ho.out.arg (PbM.cat_256 key l rounds q)
      rw [PbM.cat_length] at er ar
      obtain ⟨N, hN⟩ : ∃ N, N = 32 * q := ⟨_, rfl⟩
      rw [← hN] at er ar hqs
      subst er
      have hcap := ar.cap
      have hcap2 : (size : Int) ≤ (cr : Int) := by omega
      have o9 := ho.out
      have AF := hid (show Own 5 .u8 wr w.heap.size (.slice Ar size cr) (PbM.key key l rounds size) from by
        rw [← PbM.key_any key l rounds (by rw [← hN]; exact hqs) hq4]
        exact Own.cut o9 (by rw [PbM.cat_length]; omega) (by omega))
      clear o9
      have hmx := ar.max
      unfold maxLen at hmx
      clear ar ho hN hq hij
      go_wp2_with fail
      go_ret2
      exact ⟨_, rfl, AF.out, hb.out⟩
end Go.Proofs.YtnnhnlabkbjacaaDoor
namespace Go.Proofs.YtnnhnlabkbjacaaDoor
open Go.RowKit
section
variable {P : Program} {ops : Array Oper}
def updV (vs : Nat → Value) (i : Nat) (v : Value) : Nat → Value := fun j => if j = i then v else vs j
theorem updV_self (vs : Nat → Value) (i : Nat) (v : Value) : updV vs i v i = v := if_pos rfl
theorem updV_ne (vs : Nat → Value) {i j : Nat} (v : Value) (h : j ≠ i) : updV vs i v j = vs j := if_neg h
/-- The operations in the order of the text, the k-th first. -/
def wpR (P : Program) (ops : Array Oper) (S : Nat → Value → Prop) (D : Nat → (Nat → Value) → World → Prop) (K : Nat → (Nat → Value) → World → World → Prop) (C : World → Prop) (Q : (Nat → Value) → Act → Prop) : Nat → (Nat → Value) → List Oper → Act → Prop
  | _, vs, [], a => Q vs a
  | k, vs, o :: rest, a => ((Region.wanted o (yielded ops a.tmps) = true ∧ ∀ w, C w → (∀ j, Region.waitsFor .any ops k j = true → D j vs w) →
      ∃ v, S k v ∧ Gives P o a w v fun w' => C w' ∧ K k vs w w' ∧ D k (updV vs k v) w') ∨
      (Region.wanted o (yielded ops a.tmps) = false ∧ S k undef ∧ ∀ w, D k (updV vs k undef) w)) ∧ (S k (vs k) → wpR P ops S D K C Q (k + 1) vs rest (a.put o.dst (vs k)))
theorem wpR_at {S : Nat → Value → Prop} {D : Nat → (Nat → Value) → World → Prop} {K : Nat → (Nat → Value) → World → World → Prop} {C : World → Prop} {Qk : (Nat → Value) → Act → Prop} {vs : Nat → Value} (hS : ∀ j, S j (vs j)) : ∀ (l : List Oper) (k : Nat) (a : Act), wpR P ops S D K C Qk k vs l a →
    Qk vs (lexF l (fun i => vs (k + i)) l.length a) ∧ ∀ i o, l[i]? = some o →
      ((Region.wanted o (yielded ops (lexF l (fun i => vs (k + i)) i a).tmps) = true ∧ ∀ w, C w → (∀ j, Region.waitsFor .any ops (k + i) j = true → D j vs w) →
        ∃ v, S (k + i) v ∧ Gives P o (lexF l (fun i => vs (k + i)) i a) w v fun w' => C w' ∧ K (k + i) vs w w' ∧ D (k + i) (updV vs (k + i) v) w') ∨
      (Region.wanted o (yielded ops (lexF l (fun i => vs (k + i)) i a).tmps) = false ∧ S (k + i) undef ∧ ∀ w, D (k + i) (updV vs (k + i) undef) w))
  | [], k, a, h => ⟨h, fun i o hi => by simp at hi⟩
  | o :: l, k, a, h => by
    obtain ⟨h1, h2⟩ := h
    obtain ⟨hq, hs⟩ := wpR_at hS l (k + 1) _ (h2 (hS k))
    have e : (fun i => vs (k + 1 + i)) = fun i => vs (k + (i + 1)) := funext fun i => by rw [show k + 1 + i = k + (i + 1) by omega]
    rw [e] at hq hs
    refine ⟨?_, fun i o' hi => ?_⟩
    · rw [List.length_cons, lexF_cons]; exact hq
    · cases i with
      | zero =>
        simp only [List.getElem?_cons_zero, Option.some.injEq] at hi
        subst hi
        exact h1
      | succ i =>
        rw [lexF_cons, show k + (i + 1) = k + 1 + i by omega]
        exact hs i o' (by simpa using hi)
theorem waits_ready {L : Array Bool} {i j : Nat} (hr : i ∈ Region.ready .any ops L) (hw : Region.waitsFor .any ops i j = true) : L.getD j false = true := by
  obtain ⟨hun, o, ho, hall⟩ := mem_ready.1 hr
  obtain ⟨o2, ho2, e2, he2, hb2, hon⟩ := Region.waitsFor_spec hw
  obtain rfl : o = o2 := Option.some.inj (ho.symm.trans ho2)
  have h1 := hall e2 he2 hb2
  rw [hon] at h1
  exact h1
theorem waits_closed {L : Array Bool} {i j : Nat} (hc : Closed ops L) (hl : L.getD i false = true) (hw : Region.waitsFor .any ops i j = true) : L.getD j false = true := by
  obtain ⟨o2, ho2, e2, he2, hb2, hon⟩ := Region.waitsFor_spec hw
  have := hc i o2 ho2 hl e2 he2 hb2
  rw [hon] at this
  exact this
theorem wp_region_rel {id : Nat} {Q : Exit → Act → World → Prop} {C : World → Prop} {S : Nat → Value → Prop} {D : Nat → (Nat → Value) → World → Prop} {K : Nat → (Nat → Value) → World → World → Prop} {a : Act} {w : World} {l : List Oper} (n : Nat)
    (hm : P.follows .mixedOrders = true) (ht : tidy l.toArray = true) (hB : tailB l.toArray n = true)
    (v0 : Nat → Value) (h0 : ∀ j, S j (v0 j)) (hD : ∀ i j vs w w', i < n → j ≠ i → D j vs w → K i vs w w' → D j vs w')
    (hL : ∀ j i vs v w, j ≠ i → Region.waitsFor .any l.toArray j i = false → D j vs w → D j (updV vs i v) w)
    (hC : C w.drew)
    (h : ∀ vs : Nat → Value, wpR P l.toArray S D K C (fun vs a' => ∀ w', C w' → (∀ k, k < n → D k vs w') → wpList P l.toArray Q (l.drop n) a' w') 0 vs (l.take n) a) : (Code.region id l.toArray true).wp P Q a w := by
  refine region_core (Γ := {vs : Nat → Value // ∀ j, S j (vs j)}) (C := fun γ L w' => C w' ∧ Closed l.toArray L ∧ ∀ k, k < n → L.getD k false = true → D k γ.1 w') n hm ht hB ⟨v0, h0⟩
    ⟨hC, (fun j o _ hl => by rw [getD_replicate_false] at hl; cases hl), fun k _ hk => by rw [getD_replicate_false] at hk; cases hk⟩ (fun γ => γ.1) ?_ ?_
  · intro i o hi γ L w' hsz hr ⟨hC', hcl, hDs⟩
    have hin : i < n := by
      have := (List.getElem?_eq_some_iff.1 hi).1
      rw [List.length_take] at this; omega
    have hun := getD_both (mem_ready.1 hr).1
    have hcl2 := closed_set hcl hr
    have key := (wpR_at γ.2 (l.take n) 0 a (h γ.1)).2 i o hi
    simp only [Nat.zero_add] at key
    have hwait : ∀ j, Region.waitsFor .any l.toArray i j = true → D j γ.1 w' := fun j hj => by
      have h1 := waits_ready hr hj
      have hji : j < i := by
        obtain ⟨o2, ho2, e2, he2, hb2, hon⟩ := Region.waitsFor_spec hj
        have := tidy_edge ht ho2 e2 he2 hb2
        omega
      exact hDs j (by omega) h1
    have step : ∀ (v : Value) (w2 : World), C w2 → (w2 = w' ∨ K i γ.1 w' w2) → D i (updV γ.1 i v) w2 →
        C w2 ∧ Closed l.toArray (L.setIfInBounds i true) ∧ ∀ k, k < n → (L.setIfInBounds i true).getD k false = true → D k (updV γ.1 i v) w2 := fun v w2 hc hb hd => by
      refine ⟨hc, hcl2, fun k hk hL' => ?_⟩
      by_cases e : k = i
      · subst e; exact hd
      · rw [getD_set_ne false (Ne.symm e)] at hL'
        have hw : Region.waitsFor .any l.toArray k i = false := by
          cases hx : Region.waitsFor .any l.toArray k i with
          | false => rfl
          | true =>
            have := waits_closed hcl hL' hx
            rw [hun] at this
            cases this
        refine hL k i _ v _ e hw ?_
        rcases hb with rfl | hb
        · exact hDs k hk hL'
        · exact hD i k _ _ _ hin e (hDs k hk hL') hb
    have upd : ∀ v, S i v → ∀ j, S j (updV γ.1 i v j) := fun v hv j => by
      by_cases e : j = i
      · subst e; rw [updV_self]; exact hv
      · rw [updV_ne _ _ e]; exact γ.2 j
    have keep : ∀ v j, L.getD j false = true → γ.1 j = updV γ.1 i v j := fun v j hj => by
      have : j ≠ i := fun e => by subst e; rw [hun] at hj; cases hj
      rw [updV_ne _ _ this]
    rcases key with ⟨k1, k2⟩ | ⟨k1, k2, k3⟩
    · obtain ⟨v, hv, hg⟩ := k2 w' hC' hwait
      refine ⟨⟨updV γ.1 i v, upd v hv⟩, keep v, .inl ⟨k1, ?_⟩⟩
      simp only [updV_self]
      exact gives_mono hg fun w2 ⟨h1, h2, h3⟩ => step v w2 h1 (.inr h2) h3
    · exact ⟨⟨updV γ.1 i undef, upd undef k2⟩, keep undef, .inr ⟨k1, updV_self _ _ _, step undef w' hC' (.inl rfl) (k3 w')⟩⟩
  · intro γ L w' hall ⟨hC', _, hDs⟩
    have key := (wpR_at γ.2 (l.take n) 0 a (h γ.1)).1
    have ez : (fun i => γ.1 (0 + i)) = γ.1 := funext fun i => by rw [Nat.zero_add]
    rw [ez] at key
    exact key w' hC' fun k hk => hDs k hk (hall k hk)
end
end Go.Proofs.YtnnhnlabkbjacaaDoor
namespace Go.Proofs.YtnnhnlabkbjacaaDoor
open Go.ChangeShapes Go.WideShapes Go.ChangeAt Go.RowKit
section
variable {a : Act} {w : World} {dst : Option Tmp} {ty : TypeId} {pos : String} {after : Array Edge} {gd : Option (Nat × Bool)} {s x : Operand} {m c B B' : Nat} {v : Value} {l kk : List Nat} {S e : TypeId} {k : IntKind} {ad : Addr}
/-- The slice ahead still holds its numbers, whether the append went into its row or into a new one. -/
theorem run_appN_old (E : Elt S e k) (hown : Own e k w B v l) (hrd : Nums k w B' (some ad) kk) (hk : kk.length = m) (hsz : l.length + m ≤ 1000000) {v' : Value} {w' : World}
    (hr : (Builtin.append_ #[S, S] ty #[v, .slice (some ad) m c]).run Tryd.prog w = .ok v' w') (hown' : Own e k w' B v' (l ++ kk)) : Own e k w' B v l := by
  obtain ⟨i, hi, hz, h1, h2⟩ := E.inf
  have hbytes : (l.length + m) * i.bytes ≤ 140737488355328 := Nat.le_trans (Nat.mul_le_mul hsz h2) (by omega)
  have hl1 : (nums k kk).length = m * i.size := by rw [nums_length, h1, Nat.mul_one, hk]
  rcases hown.2 with ⟨rfl, h0⟩ | ⟨g, cap, cur, rfl, hB, hg, hnc, hcm, hcs, ht⟩
  · rw [List.eq_nil_of_length_eq_zero h0]
    exact Own.nil
  · rw [Nat.mul_one] at hcs ht
    by_cases hroom : l.length + m ≤ cap
    · have hrun := run_append_room (P := Tryd.prog) w S ty e i E.und hi g l.length cap cur hg ad m c (nums k kk) hl1 (nums_reads hrd hk) (nums_oneCell kk) hroom (by rw [h1, Nat.mul_one, nums_length, hcs]; omega)
      rw [hrun] at hr
      cases hr
      rcases hown'.2 with ⟨e', _⟩ | ⟨g2, cap2, cur2, hv2, hB2, hg2, hnc2, hcm2, hcs2, ht2⟩
      · cases e'
      · simp only [Value.slice.injEq, Option.some.injEq, Addr.mk.injEq, and_true] at hv2
        obtain ⟨rfl, _, rfl⟩ := hv2
        refine ⟨hown.1, .inr ⟨_, _, cur2, rfl, hB, hg2, hnc, hcm, hcs2, ?_⟩⟩
        rw [Nat.mul_one] at ht2 ⊢
        have h3 : (cur2.toList.take (l ++ kk).length).take l.length = (nums k (l ++ kk)).take l.length := by rw [ht2]
        rw [List.take_take, Nat.min_eq_left (by rw [List.length_append]; omega), nums_append, List.take_left' (nums_length k l)] at h3
        exact h3
    · have holds : ∀ j u, (nums k l)[j]? = some u → w.cell? ((⟨g, 0, none⟩ : Addr).add j) = some u := hown.cells (g := g) rfl
      have hrun := run_append_grow (P := Tryd.prog) w S ty e i (.int k 0) E.und hi hz ⟨g, 0, none⟩ l.length cap (nums k l) (by rw [nums_length, h1, Nat.mul_one]) holds ad m c (nums k kk) hl1 (nums_reads hrd hk) (by omega) (by omega) (growslice_fits (by omega) hbytes)
      rw [hrun] at hr
      cases hr
      exact hown.alloc _
/-- An append, in a region that draws its order. -/
theorem gives_app {A : Option Addr} (E : Elt S e k) (hs : a.eval s = v) (hx : a.eval x = .slice A m c) (h0 : A = none → m = 0 ∧ c = 0) (hown : Own e k w B v l) (hrd : Nums k w B' A kk) (hk : kk.length = m) (hsz : l.length + m ≤ 1000000) (hB : B ≤ w.heap.size) :
    ∃ v' w', Own e k w' B v' (l ++ kk) ∧ Own e k w' B v l ∧ w.grownBy w' v.ownBlock ∧ (v'.ownBlock = v.ownBlock ∨ v'.ownBlock = some w.heap.size) ∧
      ∀ R : World → Prop, R w' → Gives Tryd.prog ⟨dst, .call { callee := .builtin .append, args := #[s, x], argTypes := #[S, S] }, ty, pos, after, gd⟩ a w v' R := by
  cases A with
  | some ad =>
    obtain ⟨v', w', hr, h1, h2⟩ := run_appN (ty := ty) (c := c) E hown hrd hk hsz hB
    refine ⟨v', w', h1, run_appN_old E hown hrd hk hsz hr h1, h2, run_appN_where E hown hrd hk hsz hr, fun R hR => gives_value ?_ hR⟩
    unfold execOp
    simp only [resolve, invoke, builtin, Sem.run_bind, Sem.run_pure, Result.andThen_ok, List.map_toArray, List.map_cons, List.map_nil, hs, hx, hr]
  | none =>
    obtain ⟨rfl, rfl⟩ := h0 rfl
    obtain rfl := List.eq_nil_of_length_eq_zero hk
    refine ⟨v, w, by rw [List.append_nil]; exact hown, hown, ⟨rfl, rfl, rfl, Nat.le_refl _, fun _ _ _ => rfl⟩, .inl rfl, fun R hR => gives_value ?_ hR⟩
    have hr : (Builtin.append_ #[S, S] ty #[v, .slice none 0 0]).run Tryd.prog w = .ok v w := by
      obtain ⟨i, hi, hz, h1, h2⟩ := E.inf
      exact run_append_owned_none (P := Tryd.prog) w B S ty e i 1 E.und hi v l.length _ hown
    unfold execOp
    simp only [resolve, invoke, builtin, Sem.run_bind, Sem.run_pure, Result.andThen_ok, List.map_toArray, List.map_cons, List.map_nil, hs, hx, hr]
theorem gives_appS {A : Option Addr} {T : Value → Prop} {R : Value → World → Prop} (E : Elt S e k) (hs : a.eval s = v) (hx : a.eval x = .slice A m c) (h0 : A = none → m = 0 ∧ c = 0) (hown : Own e k w B v l) (hrd : Nums k w B' A kk) (hk : kk.length = m) (hsz : l.length + m ≤ 1000000) (hB : B ≤ w.heap.size)
    (h : ∀ v' w', Own e k w' B v' (l ++ kk) → Own e k w' B v l → w.grownBy w' v.ownBlock → T v' ∧ R v' w') :
    ∃ v', T v' ∧ Gives Tryd.prog ⟨dst, .call { callee := .builtin .append, args := #[s, x], argTypes := #[S, S] }, ty, pos, after, gd⟩ a w v' (R v') := by
  obtain ⟨v', w', h1, h2, h3, _, h5⟩ := gives_app (dst := dst) (ty := ty) (pos := pos) (after := after) (gd := gd) E hs hx h0 hown hrd hk hsz hB
  obtain ⟨h6, h7⟩ := h v' w' h1 h2 h3
  exact ⟨v', h6, h5 _ h7⟩
end
end Go.Proofs.YtnnhnlabkbjacaaDoor
namespace Go.Proofs.YtnnhnlabkbjacaaDoor
open Go.ChangeShapes Go.WideShapes Go.ChangeAt Go.RowKit
section
variable {a : Act} {w : World} {dst : Option Tmp} {ty : TypeId} {pos : String} {after : Array Edge} {gd : Option (Nat × Bool)} {s x : Operand} {m c B B' g : Nat} {kk : List Nat} {S e : TypeId} {k : IntKind} {ad : Addr}
theorem run_app0 (E : Elt S e k) (hown : Own e k w B (.slice (some ⟨g, 0, none⟩) 0 0) []) (hrd : Nums k w B' (some ad) kk) (hk : kk.length = m) (hsz : m ≤ 1000000) (hB : B ≤ w.heap.size) :
    ∃ v' w', (Builtin.append_ #[S, S] ty #[.slice (some ⟨g, 0, none⟩) 0 0, .slice (some ad) m c]).run Tryd.prog w = .ok v' w' ∧ Own e k w' B v' kk ∧ Below w.heap.size w w' := by
  obtain ⟨v', w', hr, ho, _⟩ := run_appN (ty := ty) (c := c) E hown hrd hk (by rw [List.length_nil]; omega) hB
  rw [List.nil_append] at ho
  obtain ⟨i, hi, hz, h1, h2⟩ := E.inf
  have hbytes : (0 + m) * i.bytes ≤ 140737488355328 := Nat.le_trans (Nat.mul_le_mul (show 0 + m ≤ 1000000 by omega) h2) (by omega)
  have hl1 : (nums k kk).length = m * i.size := by rw [nums_length, h1, Nat.mul_one, hk]
  refine ⟨v', w', hr, ho, ?_⟩
  by_cases hm : m = 0
  · rcases hown.2 with ⟨e', _⟩ | ⟨g2, cap2, cur, e', hB2, hg, hnc, hcm, hcs, ht⟩
    · cases e'
    · simp only [List.length_nil, Value.slice.injEq, Option.some.injEq, Addr.mk.injEq, and_true, true_and] at e'
      obtain ⟨rfl, rfl⟩ := e'
      have hkk : kk = [] := List.eq_nil_of_length_eq_zero (by omega)
      subst hkk
      subst hm
      have hrun := run_append_room (P := Tryd.prog) w S ty e i E.und hi g 0 0 cur hg ad 0 c (nums k []) hl1 (nums_reads hrd hk) (nums_oneCell []) (Nat.le_refl _) (by simp [nums])
      rw [hrun] at hr
      cases hr
      have hb : Blk w g e cur := hg
      simp only [List.take_zero, List.nil_append, show nums k [] = [] from rfl, Nat.zero_mul, Nat.add_zero, List.length_nil, List.drop_zero, Array.toArray_toList]
      rw [hb.setRow_id]
      exact Below.refl _ _
  · have hrun := run_append_grow (P := Tryd.prog) w S ty e i (.int k 0) E.und hi hz ⟨g, 0, none⟩ 0 0 [] (by simp) (fun j v hj => by simp at hj) ad m c (nums k kk) hl1 (nums_reads hrd hk) (by omega) (by omega) (growslice_fits (by omega) hbytes)
    rw [hrun] at hr
    cases hr
    exact (Below.refl _ _).drew.alloc (Nat.le_refl _) _
/-- The same in a region that draws its order. -/
theorem gives_app0 {A : Option Addr} {T : Value → Prop} {R : Value → World → Prop} (E : Elt S e k) (hs : a.eval s = .slice (some ⟨g, 0, none⟩) 0 0) (hx : a.eval x = .slice A m c) (h0 : A = none → m = 0 ∧ c = 0) (hown : Own e k w B (.slice (some ⟨g, 0, none⟩) 0 0) []) (hrd : Nums k w B' A kk) (hk : kk.length = m) (hsz : m ≤ 1000000) (hB : B ≤ w.heap.size)
    (h : ∀ v' w', Own e k w' B v' kk → Below w.heap.size w w' → T v' ∧ R v' w') :
    ∃ v', T v' ∧ Gives Tryd.prog ⟨dst, .call { callee := .builtin .append, args := #[s, x], argTypes := #[S, S] }, ty, pos, after, gd⟩ a w v' (R v') := by
  cases A with
  | some ad =>
    obtain ⟨v', w', hr, h1, h2⟩ := run_app0 (ty := ty) (c := c) E hown hrd hk hsz hB
    obtain ⟨h6, h7⟩ := h v' w' h1 h2
    refine ⟨v', h6, gives_value ?_ h7⟩
    unfold execOp
    simp only [resolve, invoke, builtin, Sem.run_bind, Sem.run_pure, Result.andThen_ok, List.map_toArray, List.map_cons, List.map_nil, hs, hx, hr]
  | none =>
    obtain ⟨rfl, rfl⟩ := h0 rfl
    obtain rfl := List.eq_nil_of_length_eq_zero hk
    obtain ⟨h6, h7⟩ := h _ w hown (Below.refl _ _)
    refine ⟨_, h6, gives_value ?_ h7⟩
    have hr : (Builtin.append_ #[S, S] ty #[.slice (some ⟨g, 0, none⟩) 0 0, .slice none 0 0]).run Tryd.prog w = .ok (.slice (some ⟨g, 0, none⟩) 0 0) w := by
      obtain ⟨i, hi, hz, h1, h2⟩ := E.inf
      exact run_append_owned_none (P := Tryd.prog) w B S ty e i 1 E.und hi _ 0 _ hown
    unfold execOp
    simp only [resolve, invoke, builtin, Sem.run_bind, Sem.run_pure, Result.andThen_ok, List.map_toArray, List.map_cons, List.map_nil, hs, hx, hr]
end
end Go.Proofs.YtnnhnlabkbjacaaDoor
namespace Go.Proofs.YtnnhnlabkbjacaaDoor
open Go.ChangeShapes Go.WideShapes Go.ChangeAt Go.RowKit
attribute [local go_sem] Gives
/-- What the operations of 'append([]byte{}, a...), append([]byte{}, b...)' yield. -/
def kS (p0 p1 a b : Value) : Nat → Value → Prop
  | 0, v => ∃ g, v = .slice (some ⟨g, 0, none⟩) 0 0
  | 1, v => v = p0
  | 2, v => v = a
  | 4, v => ∃ g, v = .slice (some ⟨g, 0, none⟩) 0 0
  | 5, v => v = p1
  | 6, v => v = b
  | _, _ => True
def kV (p0 p1 a b : Value) : Nat → Value
  | 0 => .slice (some ⟨0, 0, none⟩) 0 0
  | 1 => p0
  | 2 => a
  | 4 => .slice (some ⟨0, 0, none⟩) 0 0
  | 5 => p1
  | 6 => b
  | _ => undef
theorem kS_ok (p0 p1 a b : Value) : ∀ j, kS p0 p1 a b j (kV p0 p1 a b j)
  | 0 | 4 => ⟨0, rfl⟩
  | 1 | 2 | 5 | 6 => rfl
  | 3 => trivial
  | _ + 7 => trivial
def kD (B : Nat) (la lb : List Nat) : Nat → (Nat → Value) → World → Prop
  | 0, vs, w => Own 5 .u8 w B (vs 0) []
  | 3, vs, w => Own 5 .u8 w B (vs 3) la
  | 4, vs, w => Own 5 .u8 w B (vs 4) []
  | 7, vs, w => Own 5 .u8 w B (vs 7) lb
  | 8, vs, _ => vs 8 = vs 3
  | 9, vs, _ => vs 9 = vs 7
  | _, _, _ => True
theorem kD_below {B : Nat} {la lb : List Nat} {vs : Nat → Value} {w w' : World} (j : Nat) (h : kD B la lb j vs w) (hb : Below w.heap.size w w') : kD B la lb j vs w' := by
  unfold kD at h ⊢
  split <;> first | exact Own.below h hb | exact h | trivial
theorem kD_loc {L : Array Oper} (h83 : Region.waitsFor .any L 8 3 = true) (h97 : Region.waitsFor .any L 9 7 = true) {B : Nat} {la lb : List Nat} {vs : Nat → Value} {w : World} {i j : Nat} {v : Value} (hji : j ≠ i) (hw : Region.waitsFor .any L j i = false) (h : kD B la lb j vs w) : kD B la lb j (updV vs i v) w := by
  unfold kD at h ⊢
  split
  · simp only [updV_ne _ _ hji]; exact h
  · simp only [updV_ne _ _ hji]; exact h
  · simp only [updV_ne _ _ hji]; exact h
  · simp only [updV_ne _ _ hji]; exact h
  · have h3 : (3 : Nat) ≠ i := fun e => by subst e; rw [h83] at hw; cases hw
    rw [updV_ne _ _ hji, updV_ne _ _ h3]; exact h
  · have h7 : (7 : Nat) ≠ i := fun e => by subst e; rw [h97] at hw; cases hw
    rw [updV_ne _ _ hji, updV_ne _ _ h7]; exact h
  · trivial
set_option maxHeartbeats 400000 in
set_option maxRecDepth 100000 in
theorem keys_long (K : Option Addr) (kn kcap : Nat) (A : Option Addr) (n cap : Nat) (rounds size : Int) (h : 2000 < kn ∨ 2000 < n ∨ (200 < rounds ∧ rounds ≤ 4096 ∧ 1 ≤ size ∧ size ≤ 128)) (w : World) (hS : Salts w) :
    Calls Tryd.prog 3 #[.agg #[.slice K kn kcap, .slice A n cap, .int .i64 rounds, .int .i64 size]] w fun e w' => e = .returned (.bool true) ∧ Below w.heap.size w w' := by
  have SA := hid hS
  have HLg := hid fun w => large_any K kn kcap A n cap rounds size w
  rw [decide_eq_true h] at HLg
  clear hS h
  go_enter Tryd.func3, Tryd.ntmps3
  go_upto_region 1 with fail
  generalize hw1 : World.alloc w _ = w1
  have b1 : Blk w1 w.heap.size 24 #[.slice K kn kcap, .slice A n cap, .int .i64 rounds, .int .i64 size] := by rw [← hw1]; exact Blk.top rfl rfl
  have B1 : Hid (Below w.heap.size w w1) := by rw [← hw1]; exact (Below.refl _ _).alloc (Nat.le_refl _) _
  clear hw1
  go_wp2_with ((with_reducible apply ldcase); rfl; exact b1)
  clear b1
  refine (HLg.out w1).mono ?_
  rintro e w2 ⟨rfl, h2⟩
  have B2 := hid (B1.out.trans (h2.mono B1.out.size))
  clear h2 B1 HLg
  go_wp2_with fail
  refine (awake_any w2 (SA.out.on B2.out)).mono ?_
  rintro e w3 ⟨rfl, h3⟩
  have b3 := B2.out.trans (h3.mono B2.out.size)
  clear h3
  go_wp2_with fail
  go_ret
  exact ⟨rfl, b3⟩
set_option maxHeartbeats 1000000 in
set_option maxRecDepth 100000 in
theorem keys_bad (K : Option Addr) (key : List Nat) (kn kcap : Nat) (A : Option Addr) (l : List Nat) (n cap : Nat) (rounds size : Int) (hl : ¬(2000 < kn ∨ 2000 < n ∨ (200 < rounds ∧ rounds ≤ 4096 ∧ 1 ≤ size ∧ size ≤ 128))) (hbad : rounds < 1 ∨ 4096 < rounds ∨ size < 1 ∨ 128 < size) (w : World) (hK : Arg w K key kn kcap) (hA : Arg w A l n cap) (hS : Salts w) :
    Calls Tryd.prog 3 #[.agg #[.slice K kn kcap, .slice A n cap, .int .i64 rounds, .int .i64 size]] w fun e w' => e = .returned (.bool true) ∧ Below w.heap.size w w' := by
  have SA := hid hS
  have HK := hid hK
  have HA := hid hA
  have hkn : kn ≤ 2000 := by omega
  have hn : n ≤ 2000 := by omega
  have HLg := hid fun w => large_any K kn kcap A n cap rounds size w
  rw [decide_eq_false hl] at HLg
  have P1 := hid fun (K : Option Addr) (kn kcap : Nat) (A : Option Addr) (n cap : Nat) w => pkey_bad K kn kcap A n cap rounds size hbad w
  have P2 := hid fun (K : Option Addr) (kn kcap : Nat) (A : Option Addr) (n cap : Nat) w => rkey_bad K kn kcap A n cap rounds size hbad w
  clear hS hK hA hl hbad
  go_enter Tryd.func3, Tryd.ntmps3
  go_upto_region 1 with fail
  generalize hw1 : World.alloc w _ = w1
  have b1 : Blk w1 w.heap.size 24 #[.slice K kn kcap, .slice A n cap, .int .i64 rounds, .int .i64 size] := by rw [← hw1]; exact Blk.top rfl rfl
  have B1 : Hid (Below w.heap.size w w1) := by rw [← hw1]; exact (Below.refl _ _).alloc (Nat.le_refl _) _
  clear hw1
  have C1 := hid b1
  go_wp2_with ((with_reducible apply ldcase); rfl; exact b1)
  clear b1
  refine (HLg.out w1).mono ?_
  rintro e w2 ⟨rfl, h2⟩
  obtain ⟨g, hg⟩ : ∃ g, g = w.heap.size := ⟨_, rfl⟩
  have C2 := hid (C1.out.below h2 C1.out.lt)
  have B2 := hid (B1.out.trans (h2.mono B1.out.size))
  have K2 := hid (HK.out.on B2.out)
  have A2 := hid (HA.out.on B2.out)
  rw [← hg] at C2 ⊢
  clear h2 C1 B1 HLg hg
  clear w1
  go_upto_region 3 with fail
  refine wp_region_rel (S := kS (.pointer (some ⟨g, 0, none⟩)) (.pointer (some ⟨g, 1, none⟩)) (.slice K kn kcap) (.slice A n cap)) (D := kD w2.heap.size key l) (K := fun _ _ w w' => Below w.heap.size w w') (C := fun w' => Below w2.heap.size w2 w') 10 (by kernel_rfl) (by kernel_rfl) (by kernel_rfl)
    _ (kS_ok _ _ _ _) (fun i j vs w w' _ _ h hb => kD_below j h hb) (fun j i vs v w hji hw h => kD_loc (by kernel_rfl) (by kernel_rfl) hji hw h) (Below.refl _ _).drew fun vs => ?_
  simp only [List.take_succ_cons, List.take_zero, List.drop_succ_cons, List.drop_zero]
  refine ⟨.inl ⟨rfl, fun w' hC hDs => ⟨_, ⟨w'.heap.size, rfl⟩, ?_⟩⟩, fun e => ?_⟩
  · go_simp
    refine ⟨hC.alloc hC.size _, (Below.refl _ _).alloc (Nat.le_refl _) _, ?_⟩
    show Own 5 .u8 _ _ (updV vs 0 _ 0) []
    rw [updV_self]
    exact Own.empty w' hC.size
  obtain ⟨ga, e'⟩ := e
  have Ega := hid e'
  rw [e']
  clear e'
  try simp only [Act.put, List.setIfInBounds_toArray, List.set_cons_succ, List.set_cons_zero]
  refine ⟨.inl ⟨rfl, fun w' hC hDs => ⟨_, rfl, ?_⟩⟩, fun e => ?_⟩
  · go_simp
    first | exact ⟨rfl, hC, Below.refl _ _, trivial⟩ | exact ⟨hC, Below.refl _ _, trivial⟩ | exact ⟨rfl, Below.refl _ _, trivial⟩ | exact ⟨Below.refl _ _, trivial⟩
  have e' : vs 1 = _ := e
  rw [e']
  clear e e'
  simp only [Act.put, List.setIfInBounds_toArray, List.set_cons_succ, List.set_cons_zero]
  refine ⟨.inl ⟨rfl, fun w' hC hDs => ⟨_, rfl, ?_⟩⟩, fun e => ?_⟩
  · have q : w'.cell? ⟨g, 0, none⟩ = some (.slice K kn kcap) := (C2.out.below hC C2.out.lt).cell 0
    go_simp
    first | exact ⟨hC, Below.refl _ _, trivial⟩ | exact ⟨Below.refl _ _, trivial⟩
  have e' : vs 2 = _ := e
  rw [e']
  clear e e'
  try simp only [Act.put, List.setIfInBounds_toArray, List.set_cons_succ, List.set_cons_zero]
  refine ⟨.inl ⟨rfl, fun w' hC hDs => ?_⟩, fun e => ?_⟩
  · have h0 := hDs 0 (by kernel_rfl)
    replace h0 : Own 5 .u8 w' w2.heap.size (vs 0) [] := h0
    rw [Ega.out] at h0
    have ha := K2.out.on hC
    refine gives_app0 eltB rfl rfl ha.none h0 ha.byt.nums ha.len (by omega) hC.size fun v' w'' o b => ⟨trivial, hC.trans (b.mono hC.size), b, ?_⟩
    show Own 5 .u8 _ _ (updV vs 3 v' 3) key
    rw [updV_self]
    exact o
  clear e
  try simp only [Act.put, List.setIfInBounds_toArray, List.set_cons_succ, List.set_cons_zero]
  refine ⟨.inl ⟨rfl, fun w' hC hDs => ⟨_, ⟨w'.heap.size, rfl⟩, ?_⟩⟩, fun e => ?_⟩
  · go_simp
    refine ⟨hC.alloc hC.size _, (Below.refl _ _).alloc (Nat.le_refl _) _, ?_⟩
    show Own 5 .u8 _ _ (updV vs 4 _ 4) []
    rw [updV_self]
    exact Own.empty w' hC.size
  obtain ⟨gb, e'⟩ := e
  have Egb := hid e'
  rw [e']
  clear e'
  try simp only [Act.put, List.setIfInBounds_toArray, List.set_cons_succ, List.set_cons_zero]
  refine ⟨.inl ⟨rfl, fun w' hC hDs => ⟨_, rfl, ?_⟩⟩, fun e => ?_⟩
  · go_simp
    first | exact ⟨rfl, hC, Below.refl _ _, trivial⟩ | exact ⟨hC, Below.refl _ _, trivial⟩ | exact ⟨rfl, Below.refl _ _, trivial⟩ | exact ⟨Below.refl _ _, trivial⟩
  have e' : vs 5 = _ := e
  rw [e']
  clear e e'
  simp only [Act.put, List.setIfInBounds_toArray, List.set_cons_succ, List.set_cons_zero]
  refine ⟨.inl ⟨rfl, fun w' hC hDs => ⟨_, rfl, ?_⟩⟩, fun e => ?_⟩
  · have q : w'.cell? ⟨g, 1, none⟩ = some (.slice A n cap) := (C2.out.below hC C2.out.lt).cell 1
    go_simp
    first | exact ⟨hC, Below.refl _ _, trivial⟩ | exact ⟨Below.refl _ _, trivial⟩
  have e' : vs 6 = _ := e
  rw [e']
  clear e e'
  try simp only [Act.put, List.setIfInBounds_toArray, List.set_cons_succ, List.set_cons_zero]
  refine ⟨.inl ⟨rfl, fun w' hC hDs => ?_⟩, fun e => ?_⟩
  · have h0 := hDs 4 (by kernel_rfl)
    replace h0 : Own 5 .u8 w' w2.heap.size (vs 4) [] := h0
    rw [Egb.out] at h0
    have ha := A2.out.on hC
    refine gives_app0 eltB rfl rfl ha.none h0 ha.byt.nums ha.len (by omega) hC.size fun v' w'' o b => ⟨trivial, hC.trans (b.mono hC.size), b, ?_⟩
    show Own 5 .u8 _ _ (updV vs 7 v' 7) l
    rw [updV_self]
    exact o
  clear e
  try simp only [Act.put, List.setIfInBounds_toArray, List.set_cons_succ, List.set_cons_zero]
  refine ⟨.inl ⟨rfl, fun w' hC hDs => ⟨vs 3, trivial, ?_⟩⟩, fun e => ?_⟩
  · refine gives_value (w' := w') rfl ⟨hC, Below.refl _ _, ?_⟩
    show updV vs 8 _ 8 = updV vs 8 _ 3
    rw [updV_self, updV_ne _ _ (by decide)]
  clear e
  try simp only [Act.put, List.setIfInBounds_toArray, List.set_cons_succ, List.set_cons_zero]
  refine ⟨.inl ⟨rfl, fun w' hC hDs => ⟨vs 7, trivial, ?_⟩⟩, fun e => ?_⟩
  · refine gives_value (w' := w') rfl ⟨hC, Below.refl _ _, ?_⟩
    show updV vs 9 _ 9 = updV vs 9 _ 7
    rw [updV_self, updV_ne _ _ (by decide)]
  clear e
  try simp only [Act.put, List.setIfInBounds_toArray, List.set_cons_succ, List.set_cons_zero]
  intro w3 hC hDs
  have o3 : Own 5 .u8 w3 w2.heap.size (vs 3) key := hDs 3 (by omega)
  have o7 : Own 5 .u8 w3 w2.heap.size (vs 7) l := hDs 7 (by omega)
  have e8 : vs 8 = vs 3 := hDs 8 (by omega)
  have e9 : vs 9 = vs 7 := hDs 9 (by omega)
  rw [e8, e9]
  obtain ⟨Ap, cp, ep, ap⟩ := o3.arg K2.out.b256
  obtain ⟨As, cs, es, as'⟩ := o7.arg A2.out.b256
  rw [ep, es]
  rw [K2.out.len] at ap ⊢
  rw [A2.out.len] at as' ⊢
  have C3 := hid (C2.out.below hC C2.out.lt)
  have B3 := hid (B2.out.trans (hC.mono B2.out.size))
  have AP := hid ap
  have AS := hid as'
  clear hC hDs o3 o7 e8 e9 ap as' ep es Ega Egb K2 A2 C2 B2
  clear vs w2
  have q0 : w3.cell? ⟨g, 0, none⟩ = some (.slice K kn kcap) := C3.out.cell 0
  have q1 : w3.cell? ⟨g, 1, none⟩ = some (.slice A n cap) := C3.out.cell 1
  have q2 : w3.cell? ⟨g, 2, none⟩ = some (.int .i64 rounds) := C3.out.cell 2
  have q3 : w3.cell? ⟨g, 3, none⟩ = some (.int .i64 size) := C3.out.cell 3
  go_wp2_with fail
  refine (P1.out _ _ _ _ _ _ w3).mono ?_
  rintro e w' ⟨rfl, rfl⟩
  go_wp2_with fail
  refine (P2.out _ _ _ _ _ _ w3).mono ?_
  rintro e w' ⟨rfl, rfl⟩
  have s0 := str_none w3
  have s1 := AP.out.str
  have s2 := AS.out.str
  have s3 := (HK.out.on B3.out).str
  have s4 := (HA.out.on B3.out).str
  go_wp2_with fail
  go_loopw [9] (fun v wr => v = .int .i64 0 ∧ wr = w3) (fun _ _ => 0)
  case atStart => exact ⟨rfl, rfl⟩
  case round =>
    obtain ⟨rfl, rfl⟩ := hrel
    clear s1 s2 s3 s4
    go_wp2_with fail
    refine (P1.out _ _ _ _ _ _ wr).mono ?_
    rintro e w' ⟨rfl, rfl⟩
    go_wp2_with fail
    refine (awake_any wr (SA.out.on B3.out)).mono ?_
    rintro e w4 ⟨rfl, h4⟩
    have b4 := B3.out.trans (h4.mono B3.out.size)
    clear h4 s0 q0 q1 q2 q3
    go_wp2_with fail
    go_ret
    exact ⟨rfl, b4⟩
set_option maxHeartbeats 1000000 in
set_option maxRecDepth 100000 in
theorem keys_good (K : Option Addr) (key : List Nat) (kn kcap : Nat) (A : Option Addr) (l : List Nat) (n cap r z : Nat) (hl : ¬(2000 < kn ∨ 2000 < n ∨ (200 < (r : Int) ∧ (r : Int) ≤ 4096 ∧ 1 ≤ (z : Int) ∧ (z : Int) ≤ 128))) (hr1 : 1 ≤ r) (hr2 : r ≤ 4096) (hz1 : 1 ≤ z) (hz2 : z ≤ 128) (w : World) (hK : Arg w K key kn kcap) (hA : Arg w A l n cap) (hS : Salts w) :
    Calls Tryd.prog 3 #[.agg #[.slice K kn kcap, .slice A n cap, .int .i64 (r : Int), .int .i64 (z : Int)]] w fun e w' => e = .returned (.bool true) ∧ Below w.heap.size w w' := by
  have SA := hid hS
  have HK := hid hK
  have HA := hid hA
  have hkn : kn ≤ 2000 := by omega
  have hn : n ≤ 2000 := by omega
  have HLg := hid fun w => large_any K kn kcap A n cap r z w
  rw [decide_eq_false hl] at HLg
  clear hS hK hA hl
  go_enter Tryd.func3, Tryd.ntmps3
  go_upto_region 1 with fail
  generalize hw1 : World.alloc w _ = w1
  have b1 : Blk w1 w.heap.size 24 #[.slice K kn kcap, .slice A n cap, .int .i64 (r : Int), .int .i64 (z : Int)] := by rw [← hw1]; exact Blk.top rfl rfl
  have B1 : Hid (Below w.heap.size w w1) := by rw [← hw1]; exact (Below.refl _ _).alloc (Nat.le_refl _) _
  clear hw1
  have C1 := hid b1
  go_wp2_with ((with_reducible apply ldcase); rfl; exact b1)
  clear b1
  refine (HLg.out w1).mono ?_
  rintro e w2 ⟨rfl, h2⟩
  obtain ⟨g, hg⟩ : ∃ g, g = w.heap.size := ⟨_, rfl⟩
  have C2 := hid (C1.out.below h2 C1.out.lt)
  have B2 := hid (B1.out.trans (h2.mono B1.out.size))
  have K2 := hid (HK.out.on B2.out)
  have A2 := hid (HA.out.on B2.out)
  rw [← hg] at C2 ⊢
  clear h2 C1 B1 HLg hg
  clear w1
  go_upto_region 3 with fail
  refine wp_region_rel (S := kS (.pointer (some ⟨g, 0, none⟩)) (.pointer (some ⟨g, 1, none⟩)) (.slice K kn kcap) (.slice A n cap)) (D := kD w2.heap.size key l) (K := fun _ _ w w' => Below w.heap.size w w') (C := fun w' => Below w2.heap.size w2 w') 10 (by kernel_rfl) (by kernel_rfl) (by kernel_rfl)
    _ (kS_ok _ _ _ _) (fun i j vs w w' _ _ h hb => kD_below j h hb) (fun j i vs v w hji hw h => kD_loc (by kernel_rfl) (by kernel_rfl) hji hw h) (Below.refl _ _).drew fun vs => ?_
  simp only [List.take_succ_cons, List.take_zero, List.drop_succ_cons, List.drop_zero]
  refine ⟨.inl ⟨rfl, fun w' hC hDs => ⟨_, ⟨w'.heap.size, rfl⟩, ?_⟩⟩, fun e => ?_⟩
  · go_simp
    refine ⟨hC.alloc hC.size _, (Below.refl _ _).alloc (Nat.le_refl _) _, ?_⟩
    show Own 5 .u8 _ _ (updV vs 0 _ 0) []
    rw [updV_self]
    exact Own.empty w' hC.size
  obtain ⟨ga, e'⟩ := e
  have Ega := hid e'
  rw [e']
  clear e'
  try simp only [Act.put, List.setIfInBounds_toArray, List.set_cons_succ, List.set_cons_zero]
  refine ⟨.inl ⟨rfl, fun w' hC hDs => ⟨_, rfl, ?_⟩⟩, fun e => ?_⟩
  · go_simp
    first | exact ⟨rfl, hC, Below.refl _ _, trivial⟩ | exact ⟨hC, Below.refl _ _, trivial⟩ | exact ⟨rfl, Below.refl _ _, trivial⟩ | exact ⟨Below.refl _ _, trivial⟩
  have e' : vs 1 = _ := e
  rw [e']
  clear e e'
  simp only [Act.put, List.setIfInBounds_toArray, List.set_cons_succ, List.set_cons_zero]
  refine ⟨.inl ⟨rfl, fun w' hC hDs => ⟨_, rfl, ?_⟩⟩, fun e => ?_⟩
  · have q : w'.cell? ⟨g, 0, none⟩ = some (.slice K kn kcap) := (C2.out.below hC C2.out.lt).cell 0
    go_simp
    first | exact ⟨hC, Below.refl _ _, trivial⟩ | exact ⟨Below.refl _ _, trivial⟩
  have e' : vs 2 = _ := e
  rw [e']
  clear e e'
  try simp only [Act.put, List.setIfInBounds_toArray, List.set_cons_succ, List.set_cons_zero]
  refine ⟨.inl ⟨rfl, fun w' hC hDs => ?_⟩, fun e => ?_⟩
  · have h0 := hDs 0 (by kernel_rfl)
    replace h0 : Own 5 .u8 w' w2.heap.size (vs 0) [] := h0
    rw [Ega.out] at h0
    have ha := K2.out.on hC
    refine gives_app0 eltB rfl rfl ha.none h0 ha.byt.nums ha.len (by omega) hC.size fun v' w'' o b => ⟨trivial, hC.trans (b.mono hC.size), b, ?_⟩
    show Own 5 .u8 _ _ (updV vs 3 v' 3) key
    rw [updV_self]
    exact o
  clear e
  try simp only [Act.put, List.setIfInBounds_toArray, List.set_cons_succ, List.set_cons_zero]
  refine ⟨.inl ⟨rfl, fun w' hC hDs => ⟨_, ⟨w'.heap.size, rfl⟩, ?_⟩⟩, fun e => ?_⟩
  · go_simp
    refine ⟨hC.alloc hC.size _, (Below.refl _ _).alloc (Nat.le_refl _) _, ?_⟩
    show Own 5 .u8 _ _ (updV vs 4 _ 4) []
    rw [updV_self]
    exact Own.empty w' hC.size
  obtain ⟨gb, e'⟩ := e
  have Egb := hid e'
  rw [e']
  clear e'
  try simp only [Act.put, List.setIfInBounds_toArray, List.set_cons_succ, List.set_cons_zero]
  refine ⟨.inl ⟨rfl, fun w' hC hDs => ⟨_, rfl, ?_⟩⟩, fun e => ?_⟩
  · go_simp
    first | exact ⟨rfl, hC, Below.refl _ _, trivial⟩ | exact ⟨hC, Below.refl _ _, trivial⟩ | exact ⟨rfl, Below.refl _ _, trivial⟩ | exact ⟨Below.refl _ _, trivial⟩
  have e' : vs 5 = _ := e
  rw [e']
  clear e e'
  simp only [Act.put, List.setIfInBounds_toArray, List.set_cons_succ, List.set_cons_zero]
  refine ⟨.inl ⟨rfl, fun w' hC hDs => ⟨_, rfl, ?_⟩⟩, fun e => ?_⟩
  · have q : w'.cell? ⟨g, 1, none⟩ = some (.slice A n cap) := (C2.out.below hC C2.out.lt).cell 1
    go_simp
    first | exact ⟨hC, Below.refl _ _, trivial⟩ | exact ⟨Below.refl _ _, trivial⟩
  have e' : vs 6 = _ := e
  rw [e']
  clear e e'
  try simp only [Act.put, List.setIfInBounds_toArray, List.set_cons_succ, List.set_cons_zero]
  refine ⟨.inl ⟨rfl, fun w' hC hDs => ?_⟩, fun e => ?_⟩
  · have h0 := hDs 4 (by kernel_rfl)
    replace h0 : Own 5 .u8 w' w2.heap.size (vs 4) [] := h0
    rw [Egb.out] at h0
    have ha := A2.out.on hC
    refine gives_app0 eltB rfl rfl ha.none h0 ha.byt.nums ha.len (by omega) hC.size fun v' w'' o b => ⟨trivial, hC.trans (b.mono hC.size), b, ?_⟩
    show Own 5 .u8 _ _ (updV vs 7 v' 7) l
    rw [updV_self]
    exact o
  clear e
  try simp only [Act.put, List.setIfInBounds_toArray, List.set_cons_succ, List.set_cons_zero]
  refine ⟨.inl ⟨rfl, fun w' hC hDs => ⟨vs 3, trivial, ?_⟩⟩, fun e => ?_⟩
  · refine gives_value (w' := w') rfl ⟨hC, Below.refl _ _, ?_⟩
    show updV vs 8 _ 8 = updV vs 8 _ 3
    rw [updV_self, updV_ne _ _ (by decide)]
  clear e
  try simp only [Act.put, List.setIfInBounds_toArray, List.set_cons_succ, List.set_cons_zero]
  refine ⟨.inl ⟨rfl, fun w' hC hDs => ⟨vs 7, trivial, ?_⟩⟩, fun e => ?_⟩
  · refine gives_value (w' := w') rfl ⟨hC, Below.refl _ _, ?_⟩
    show updV vs 9 _ 9 = updV vs 9 _ 7
    rw [updV_self, updV_ne _ _ (by decide)]
  clear e
  try simp only [Act.put, List.setIfInBounds_toArray, List.set_cons_succ, List.set_cons_zero]
  intro w3 hC hDs
  have o3 : Own 5 .u8 w3 w2.heap.size (vs 3) key := hDs 3 (by omega)
  have o7 : Own 5 .u8 w3 w2.heap.size (vs 7) l := hDs 7 (by omega)
  have e8 : vs 8 = vs 3 := hDs 8 (by omega)
  have e9 : vs 9 = vs 7 := hDs 9 (by omega)
  rw [e8, e9]
  obtain ⟨Ap, cp, ep, ap⟩ := o3.arg K2.out.b256
  obtain ⟨As, cs, es, as'⟩ := o7.arg A2.out.b256
  rw [ep, es]
  rw [K2.out.len] at ap ⊢
  rw [A2.out.len] at as' ⊢
  have C3 := hid (C2.out.below hC C2.out.lt)
  have B3 := hid (B2.out.trans (hC.mono B2.out.size))
  have AP := hid ap
  have AS := hid as'
  clear hC hDs o3 o7 e8 e9 ap as' ep es Ega Egb K2 A2 C2 B2
  clear vs w2
  have q0 : w3.cell? ⟨g, 0, none⟩ = some (.slice K kn kcap) := C3.out.cell 0
  have q1 : w3.cell? ⟨g, 1, none⟩ = some (.slice A n cap) := C3.out.cell 1
  have q2 : w3.cell? ⟨g, 2, none⟩ = some (.int .i64 (r : Int)) := C3.out.cell 2
  have q3 : w3.cell? ⟨g, 3, none⟩ = some (.int .i64 (z : Int)) := C3.out.cell 3
  obtain ⟨kk, hkk⟩ : ∃ kk, kk = PbM.key key l r z := ⟨_, rfl⟩
  have hkl : kk.length = z := by rw [hkk]; exact PbM.key_length hz2
  have hk256 : B256 kk := by rw [hkk]; exact PbM.key_256 _ _ _ _
  have KL := hid hkl
  have K256 := hid hk256
  have KK := hid hkk
  clear hkl hk256 hkk
  go_wp2_with fail
  refine (pkey_any Ap key kn cp As l n cs r z (by omega) (by omega) hr1 hr2 hz1 hz2 w3 AP.out AS.out (SA.out.on B3.out)).mono ?_
  rintro e w4 ⟨v4, rfl, o4, h4⟩
  rw [← KK.out] at o4
  obtain ⟨gB, cB, eB, hB1, hB2, hB3, hB4, _⟩ := o4.at (by rw [KL.out]; omega)
  rw [KL.out] at eB
  subst eB
  have O4 := hid o4
  have H4 := hid h4
  have B4 := hid (B3.out.trans (h4.mono B3.out.size))
  have C4 := hid (C3.out.below h4 C3.out.lt)
  have K4 := hid (HK.out.on B4.out)
  have L4 := hid (HA.out.on B4.out)
  clear o4 h4 q0 q1 q2 q3
  have q0 : w4.cell? ⟨g, 0, none⟩ = some (.slice K kn kcap) := C4.out.cell 0
  have q1 : w4.cell? ⟨g, 1, none⟩ = some (.slice A n cap) := C4.out.cell 1
  have q2 : w4.cell? ⟨g, 2, none⟩ = some (.int .i64 (r : Int)) := C4.out.cell 2
  have q3 : w4.cell? ⟨g, 3, none⟩ = some (.int .i64 (z : Int)) := C4.out.cell 3
  go_wp2_with fail
  refine (rkey_any K key kn kcap A l n cap r z (by omega) (by omega) hr1 hr2 hz1 hz2 w4 K4.out L4.out).mono ?_
  rintro e w5 ⟨v5, rfl, o5, h5⟩
  rw [← KK.out] at o5
  obtain ⟨gW, cW, eW, hW1, hW2, hW3, hW4, _⟩ := o5.at (by rw [KL.out]; omega)
  rw [KL.out] at eW
  subst eW
  have W5 := hid o5
  have O5 := hid (O4.out.below h5)
  have H5 := hid (H4.out.trans (h5.mono H4.out.size))
  have B5 := hid (B4.out.trans (h5.mono B4.out.size))
  have C5 := hid (C4.out.below h5 C4.out.lt)
  clear o5 h5 O4 C4 B4 K4 L4 q0 q1 q2 q3
  have q0 : w5.cell? ⟨g, 0, none⟩ = some (.slice K kn kcap) := C5.out.cell 0
  have q1 : w5.cell? ⟨g, 1, none⟩ = some (.slice A n cap) := C5.out.cell 1
  have s0 : (convert 22 9 (.slice (some ⟨gB, 0, none⟩) z cB)).run Tryd.prog w5 = .ok (.string (str kk)) w5 := by
    obtain ⟨X, c, e, a⟩ := O5.out.arg K256.out
    rw [KL.out] at e a
    cases e
    exact a.str
  have s5 : (convert 22 9 (.slice (some ⟨gW, 0, none⟩) z cW)).run Tryd.prog w5 = .ok (.string (str kk)) w5 := by
    obtain ⟨X, c, e, a⟩ := W5.out.arg K256.out
    rw [KL.out] at e a
    cases e
    exact a.str
  have s1 := (AP.out.on H5.out).str
  have s2 := (AS.out.on H5.out).str
  have s3 := (HK.out.on B5.out).str
  have s4 := (HA.out.on B5.out).str
  go_wp2_with fail
  clear s0 s1 s2 s3 s4 s5 q0 q1
  go_loopw [9] (fun v wr => ∃ (i : Nat) (L : List Nat), i ≤ z ∧ v = .int .i64 i ∧ L.length = z ∧ Hid (B256 L) ∧ Hid (Own 5 .u8 wr w3.heap.size (.slice (some ⟨gB, 0, none⟩) z cB) L) ∧ Hid (Own 5 .u8 wr w4.heap.size (.slice (some ⟨gW, 0, none⟩) z cW) kk) ∧ Hid (Below w3.heap.size w3 wr)) (fun v _ => z - (intOf v).toNat)
  case atStart => exact ⟨0, kk, by omega, rfl, KL.out, K256, O5, W5, H5⟩
  case round =>
    clear O5 W5 H5 C5 B5
    obtain ⟨i, L, hi, rfl, hLl, hL256, ho, hw, hb⟩ := hrel
    by_cases hlt : i < z
    · have ti : (i : Int) < (z : Int) := by omega
      obtain ⟨gx, cx, ex, _, _, _, _, hcell⟩ := ho.out.at (by omega)
      rw [hLl] at ex
      cases ex
      obtain ⟨q1, q2⟩ := hcell i (by omega)
      have hx : L.getD i 0 < 256 := by rw [nums_at (by omega)]; exact hL256.out _ (List.getElem_mem _)
      obtain ⟨x, hxx⟩ : ∃ x, x = L.getD i 0 := ⟨_, rfl⟩
      rw [← hxx] at q1 hx
      have ex := u8_xor_nat x 255 hx (by omega)
      have hy : x ^^^ 255 < 256 := Nat.xor_lt_two_pow (n := 8) hx (by omega)
      obtain ⟨y, hyy⟩ : ∃ y, y = x ^^^ 255 := ⟨_, rfl⟩
      rw [← hyy] at ex hy
      have HYY := hid hy
      have HEX := hid (show bits .xor .u8 (x : Int) 255 = (y : Int) from ex)
      clear ex
      have HIL := hid (show i < L.length by omega)
      have HLL := hid hLl
      clear hcell hxx hyy
      go_wp2_with fail
      go_roundw
      case rel =>
        refine ⟨i + 1, L.set i y, by omega, by go_num, by rw [List.length_set]; exact HLL.out, hid (fun u hu => ?_), hid (by rw [HEX.out]; exact ho.out.put HIL.out), hid (hw.out.otherCell hB2), hid (Own.putBelow hb.out hB1)⟩
        rcases List.mem_or_eq_of_mem_set hu with hu | hu
        · exact hL256.out u hu
        · rw [hu]; exact HYY.out
      case measure => simp [intOf]; omega
    · have ti : decide ((i : Int) < (z : Int)) = false := by simp; omega
      have BW := hid (B3.out.trans (hb.out.mono B3.out.size))
      have CW := hid (C3.out.below hb.out C3.out.lt)
      have P6 := hid (AP.out.on hb.out)
      have S6 := hid (AS.out.on hb.out)
      have q2 : wr.cell? ⟨g, 2, none⟩ = some (.int .i64 (r : Int)) := CW.out.cell 2
      have q3 : wr.cell? ⟨g, 3, none⟩ = some (.int .i64 (z : Int)) := CW.out.cell 3
      clear ho hL256
      go_wp2_with fail
      refine (pkey_any Ap key kn cp As l n cs r z (by omega) (by omega) hr1 hr2 hz1 hz2 wr P6.out S6.out (SA.out.on BW.out)).mono ?_
      rintro e w6 ⟨v6, rfl, o6, h6⟩
      rw [← KK.out] at o6
      obtain ⟨A6, c6, e6, a6⟩ := o6.arg K256.out
      rw [KL.out] at e6 a6
      subst e6
      have s0 := a6.str
      have s5 : (convert 22 9 (.slice (some ⟨gW, 0, none⟩) z cW)).run Tryd.prog w6 = .ok (.string (str kk)) w6 := by
        obtain ⟨X, c, e, a⟩ := (hw.out.below h6).arg K256.out
        rw [KL.out] at e a
        cases e
        exact a.str
      have B6 := hid (BW.out.trans (h6.mono BW.out.size))
      clear o6 a6 h6 hw hb P6 S6 CW q2 q3
      go_wp2_with fail
      refine (awake_any w6 (SA.out.on B6.out)).mono ?_
      rintro e w7 ⟨rfl, h7⟩
      have b7 := B6.out.trans (h7.mono B6.out.size)
      clear h7 s0 s5
      go_wp2_with fail
      go_ret
      exact ⟨rfl, b7⟩
set_option maxRecDepth 100000 in
theorem keys_law (K : Option Addr) (key : List Nat) (kn kcap : Nat) (A : Option Addr) (l : List Nat) (n cap : Nat) (rounds size : Int) (w : World) (hK : Arg w K key kn kcap) (hA : Arg w A l n cap) (hS : Salts w) :
    Calls Tryd.prog 3 #[.agg #[.slice K kn kcap, .slice A n cap, .int .i64 rounds, .int .i64 size]] w fun e w' => e = .returned (.bool true) ∧ Below w.heap.size w w' := by
  by_cases hl : 2000 < kn ∨ 2000 < n ∨ (200 < rounds ∧ rounds ≤ 4096 ∧ 1 ≤ size ∧ size ≤ 128)
  · exact keys_long K kn kcap A n cap rounds size hl w hS
  · by_cases hbad : rounds < 1 ∨ 4096 < rounds ∨ size < 1 ∨ 128 < size
    · exact keys_bad K key kn kcap A l n cap rounds size hl hbad w hK hA hS
    · obtain ⟨r, rfl⟩ : ∃ r : Nat, rounds = r := ⟨rounds.toNat, by omega⟩
      obtain ⟨z, rfl⟩ : ∃ z : Nat, size = z := ⟨size.toNat, by omega⟩
      exact keys_good K key kn kcap A l n cap r z hl (by omega) (by omega) (by omega) (by omega) w hK hA hS
end Go.Proofs.YtnnhnlabkbjacaaDoor
