/-
  Contract of the document's digest (casemateref03.Sum) over this translation.
-/
import Derived.Test.YtfgmgfniolmpkaaDoorRefSha6
import Derived.Test.YtfgmgfniolmpkaaDoorRegSet
namespace Go.Proofs.YtfgmgfniolmpkaaDoor
open Go.ChangeShapes Go.WideShapes Go.ChangeAt Go.RowKit
attribute [local go_sem] Gives
theorem passes_step (s : ShaM.S8) (l : List Nat) (k : Nat) (h : 64 * k + 64 ≤ l.length) :
    ShaM.passes s (l.take (64 * (k + 1))) = ShaM.pass (ShaM.passes s (l.take (64 * k))) (ShaM.at' ((l.drop (64 * k)).take 64)) := by
  have e : l.take (64 * (k + 1)) = l.take (64 * k) ++ (l.drop (64 * k)).take 64 := by
    rw [show 64 * (k + 1) = 64 * k + 64 by omega, List.take_add]
  rw [e, ShaM.passes_append k (by rw [List.length_take]; omega), ShaM.passes_long (by rw [List.length_take, List.length_drop]; omega), ShaM.passes_short (by rw [List.length_drop, List.length_take]; omega)]
theorem digest_at (s : ShaM.S8) (i r : Nat) (hr : r < 4) : ShaM.digest s (4 * i + r) = s.get i / 2 ^ (8 * (3 - r)) % 256 := by
  unfold ShaM.digest
  rw [show (4 * i + r) / 4 = i by omega, show (4 * i + r) % 4 = r by omega]
theorem dg_step4 (s : ShaM.S8) (i : Nat) : (fun j => if j = 4 * i + 3 then ShaM.digest s (4 * i + 3) else if j = 4 * i + 2 then ShaM.digest s (4 * i + 2) else if j = 4 * i + 1 then ShaM.digest s (4 * i + 1) else if j = 4 * i then ShaM.digest s (4 * i) else dg s (4 * i) j) = dg s (4 * (i + 1)) := by
  rw [show 4 * (i + 1) = 4 * i + 3 + 1 by omega, ← dg_step s (4 * i + 3), ← dg_step s (4 * i + 2), ← dg_step s (4 * i + 1), ← dg_step s (4 * i)]
/-- Four bytes laid, each or not. -/
def F4 (c0 c1 c2 c3 v0 v1 v2 v3 : Nat) (base : Nat → Nat) (d : Nat → Bool) (j : Nat) : Nat :=
  if j = c3 ∧ d 41 = true then v3 else if j = c2 ∧ d 39 = true then v2 else if j = c1 ∧ d 37 = true then v1 else if j = c0 ∧ d 35 = true then v0 else base j
def st4 (j : Nat) : Bool := j == 35 || j == 37 || j == 39 || j == 41
theorem st4_lt (j : Nat) (h : st4 j = true) : j < 42 := by
  unfold st4 at h; simp at h; omega
theorem F4_set0 (c v0 v1 v2 v3 : Nat) (base : Nat → Nat) (d : Nat → Bool) : (fun j => if j = c + 0 then v0 else F4 c (c + 1) (c + 2) (c + 3) v0 v1 v2 v3 base d j) = F4 c (c + 1) (c + 2) (c + 3) v0 v1 v2 v3 base (upB d 35) := funext fun j => by
  unfold F4 upB
  by_cases e : j = c + 0
  · subst e; simp
  · by_cases e3 : j = c + 3 <;> by_cases e2 : j = c + 2 <;> by_cases e1 : j = c + 1 <;> by_cases e0 : j = c <;> simp_all
theorem F4_set1 (c v0 v1 v2 v3 : Nat) (base : Nat → Nat) (d : Nat → Bool) : (fun j => if j = c + 1 then v1 else F4 c (c + 1) (c + 2) (c + 3) v0 v1 v2 v3 base d j) = F4 c (c + 1) (c + 2) (c + 3) v0 v1 v2 v3 base (upB d 37) := funext fun j => by
  unfold F4 upB
  by_cases e : j = c + 1
  · subst e; simp
  · by_cases e3 : j = c + 3 <;> by_cases e2 : j = c + 2 <;> by_cases e1 : j = c + 1 <;> by_cases e0 : j = c <;> simp_all
theorem F4_set2 (c v0 v1 v2 v3 : Nat) (base : Nat → Nat) (d : Nat → Bool) : (fun j => if j = c + 2 then v2 else F4 c (c + 1) (c + 2) (c + 3) v0 v1 v2 v3 base d j) = F4 c (c + 1) (c + 2) (c + 3) v0 v1 v2 v3 base (upB d 39) := funext fun j => by
  unfold F4 upB
  by_cases e : j = c + 2
  · subst e; simp
  · by_cases e3 : j = c + 3 <;> by_cases e2 : j = c + 2 <;> by_cases e1 : j = c + 1 <;> by_cases e0 : j = c <;> simp_all
theorem F4_set3 (c v0 v1 v2 v3 : Nat) (base : Nat → Nat) (d : Nat → Bool) : (fun j => if j = c + 3 then v3 else F4 c (c + 1) (c + 2) (c + 3) v0 v1 v2 v3 base d j) = F4 c (c + 1) (c + 2) (c + 3) v0 v1 v2 v3 base (upB d 41) := funext fun j => by
  unfold F4 upB
  by_cases e : j = c + 3
  · subst e; simp
  · by_cases e3 : j = c + 3 <;> by_cases e2 : j = c + 2 <;> by_cases e1 : j = c + 1 <;> by_cases e0 : j = c <;> simp_all
theorem byte_wrap (x d : Nat) (hx : x < 4294967296) : IntKind.u8.wrap (IntKind.u32.wrap ((x : Int) / ((d : Nat) : Int))) = ((x / d % 256 : Nat) : Int) := by
  have h : x / d ≤ x := Nat.div_le_self _ _
  rw [show (x : Int) / ((d : Nat) : Int) = ((x / d : Nat) : Int) by simp, IntKind.wrap_u32, IntKind.wrap_u8]
  omega
theorem byte_wrap1 (x : Nat) : IntKind.u8.wrap (x : Int) = ((x / 2 ^ (8 * (3 - 3)) % 256 : Nat) : Int) := by
  rw [IntKind.wrap_u8, show 2 ^ (8 * (3 - 3)) = 1 from rfl, Nat.div_one]; omega
theorem nil_byt {w : World} {l : List Nat} (h : Byt w w.heap.size none l) : l = [] := by
  by_cases h0 : 0 < l.length
  · obtain ⟨b, o, e, _⟩ := h h0
    cases e
  · exact List.eq_nil_of_length_eq_zero (by omega)
set_option maxHeartbeats 2000000 in
set_option maxRecDepth 100000 in
theorem rsum_any (A : Option Addr) (l : List Nat) (n cap : Nat) (hl : l.length = n) (hn : n ≤ 100000) (h0 : A = none → n = 0 ∧ cap = 0) (h256 : B256 l) (w : World) (hA : Byt w w.heap.size A l) :
    Calls Tryd.prog 22 #[.slice A n cap] w fun e w' => e = .returned (.agg (tag (ShaM.sum l))) ∧ Below w.heap.size w w' := by
  have htl := ShaM.tail_length n
  have hzl : ShaM.zeros n < 64 := by unfold ShaM.zeros; omega
  have hwhole := ShaM.tail_whole n
  have hsum : ShaM.sum l = ShaM.digest (ShaM.passes ShaM.seeds (l ++ ShaM.tail n)) := by unfold ShaM.sum ShaM.ended; rw [Nat.zero_add, hl]
  have ht256 := ShaM.tail_256 n
  have TA := hid fun w => tail_any n (by omega) w
  rw [hsum]
  clear hsum
  generalize ShaM.tail n = tl at *
  have htl9 : 9 ≤ tl.length := by omega
  have htl100 : tl.length ≤ 100 := by omega
  have HWH := hid hwhole
  have HT256 := hid ht256
  have HA := hid hA
  have HL := hid hl
  have H256 := hid h256
  clear hA hl h256 htl hzl hwhole ht256
  go_enter Tryd.func22, Tryd.ntmps22
  go_upto_region 2 with fail
  generalize hw3 : World.alloc w _ = w3
  have b1 : Blk w3 w.heap.size 25 (tag fun _ => 0) := by rw [← hw3]; exact Blk.top zlit_tag rfl
  have hb : Below w.heap.size w w3 := by rw [← hw3]; exact (Below.refl _ _).alloc (Nat.le_refl _) _
  clear hw3
  have a3 := ((HA.out.below hb (Nat.le_refl _)).more hb.size)
  have B1 := hid b1
  have BEL := hid hb
  have A3 := hid a3
  clear b1 hb a3
  go_upto_region 3 with (at_builtin; (with_reducible apply wappN_any elt8); rfl; rfl; exact h0; exact (Own.nil (e := 5) (k := .u8) (w := w3) (B := w3.heap.size)); exact A3.out; exact HL.out; (rw [List.length_nil]; omega); exact Nat.le_refl _; intro v1 w4 o4 g4)
  rw [List.nil_append] at o4
  have b4 := below_grown (Below.refl w3.heap.size w3) g4 (Own.nil (e := 5) (k := .u8) (w := w3) (B := w3.heap.size)) (Nat.le_refl _) (Nat.le_refl _)
  have O4 := hid o4
  have B4 := hid b4
  clear o4 b4 g4
  go_wp2_with fail
  refine (TA.out w4).mono ?_
  rintro e w5 ⟨A5, c5, rfl, _, _, n5, b5⟩
  obtain ⟨tn, htn⟩ : ∃ t, t = tl.length := ⟨_, rfl⟩
  rw [← htn] at htl9 htl100 ⊢
  obtain ⟨bt, ot, rfl, hBt, hrt⟩ := n5 (by omega)
  have N5 : Hid (Nums .u8 w5 w5.heap.size (some ⟨bt, ot, none⟩) tl) := hid fun _ => ⟨bt, ot, rfl, hBt, hrt⟩
  have O5 := hid (O4.out.below b5)
  have B5 := hid (B4.out.trans (b5.mono B4.out.size))
  have HTN := hid htn
  have hsz5 := B5.out.size
  clear n5 b5 hrt htn O4 B4 TA
  go_upto_region 4 with (at_builtin; (with_reducible apply wappN elt8); rfl; rfl; exact O5.out; exact N5.out; exact HTN.out.symm; (rw [HL.out]; omega); exact hsz5; intro v2 w6 o6 g6)
  have b6 := below_grown B5.out g6 O5.out (Nat.le_refl _) (Nat.le_refl _)
  rcases o6.form with ⟨_, e6⟩ | ⟨ga, ca, e6, hga, hgl, hca, hcm, hna⟩
  · exact absurd (congrArg List.length e6) (by rw [List.length_append, List.length_nil, ← HTN.out]; omega)
  subst e6
  have hall : (l ++ tl).length = n + tn := by rw [List.length_append, HL.out, HTN.out]
  obtain ⟨N, hN⟩ : ∃ N, N = n + tn := ⟨_, rfl⟩
  rw [← hN] at hall
  rw [hall] at hca ⊢
  have hwhole : N % 64 = 0 := by have := HWH.out; rw [← HTN.out] at this; omega
  have hall256 : B256 (l ++ tl) := H256.out.append HT256.out
  generalize hal : l ++ tl = al at *
  have HAL := hid hal
  clear hal
  have hNs : N ≤ 200000 := by omega
  have NA := hid hna
  have B6 := hid b6
  have HALL := hid hall
  have HA256 := hid hall256
  clear hna b6 hall hall256 o6 g6 hN N5 O5 B5
  go_wp2_with fail
  refine (salts_any w6).mono ?_
  rintro e w7 ⟨A7, c7, rfl, _, _, n7, b7⟩
  have N7 := hid n7
  have B7 := hid b7
  rw [show ShaM.salts.length = 64 from rfl]
  clear n7 b7
  go_wp2_with fail
  refine (seeds_any w7).mono ?_
  rintro e w8 ⟨A8, c8, rfl, _, _, n8, b8⟩
  rw [show [ShaM.seeds.a, ShaM.seeds.b, ShaM.seeds.c, ShaM.seeds.d, ShaM.seeds.e, ShaM.seeds.f, ShaM.seeds.g, ShaM.seeds.h].length = 8 from rfl]
  have n8' : Nums .u32 w8 w8.heap.size A8 (lst8 (ShaM.passes ShaM.seeds (al.take (64 * 0)))) := by
    rw [Nat.mul_zero, List.take_zero, ShaM.passes_short (by simp)]; exact n8
  have N8 := hid n8'
  have bb : Below w6.heap.size w6 w8 := B7.out.trans (b8.mono B7.out.size)
  have NA8 := hid ((NA.out.below bb (Nat.le_refl _)).more bb.size)
  have N78 := hid ((N7.out.below b8 (Nat.le_refl _)).more b8.size)
  have B38 := hid (B6.out.trans (bb.mono B6.out.size))
  have hgl8 : ga < w8.heap.size := Nat.lt_of_lt_of_le hgl bb.size
  clear n8 b8 bb n8' NA N7 B7 B6
  go_wp2_with fail
  go_loopw [5, 6] (fun u v wr => ∃ (k i : Nat) (An : Option Addr) (cn : Nat), Hid (i = 64 * k) ∧ i ≤ N ∧ v = .int .i64 i ∧ u = .slice An 8 cn ∧ Hid (Nums .u32 wr wr.heap.size An (lst8 (ShaM.passes ShaM.seeds (al.take (64 * k))))) ∧ Hid (Below w8.heap.size w8 wr)) (fun _ v _ => N - (intOf v).toNat)
  case atStart => exact ⟨0, 0, _, _, hid rfl, Nat.zero_le _, rfl, rfl, N8, hid (Below.refl _ _)⟩
  case round =>
    obtain ⟨k, i, An, cn, hik, hi, rfl, rfl, hn', hb⟩ := hrel
    clear N8
    by_cases hlt : i < N
    · have ti : decide (i < N) = true := decide_eq_true hlt
      have h64 : i + 64 ≤ N := by have := hik.out; omega
      have hici : ¬ (ca = i) := by omega
      have hok : (ShaM.passes ShaM.seeds (al.take (64 * k))).ok := ShaM.passes_ok _ (Nat.le_refl _) ShaM.seeds_ok
      have hst : ShaM.passes ShaM.seeds (al.take (64 * (k + 1))) = ShaM.pass (ShaM.passes ShaM.seeds (al.take (64 * k))) (ShaM.at' ((al.drop i).take 64)) := by
        rw [hik.out]; exact passes_step ShaM.seeds al k (by rw [HALL.out]; have := hik.out; omega)
      have hby : Byt wr wr.heap.size (some ⟨ga, 0 + i, none⟩) ((al.drop i).take 64) := ((NA8.out.below hb.out (Nat.le_refl _)).more hb.out.size).byt.drop i |>.take 64
      rw [Nat.zero_add] at hby
      have hl64 : ((al.drop i).take 64).length = 64 := by rw [List.length_take, List.length_drop, HALL.out]; omega
      have HST := hid hst
      have HBY := hid hby
      have HOK := hid hok
      have HL64 := hid hl64
      have HI64 := hid h64
      have ec : (i : Int) + 64 ≤ (ca : Int) := by omega
      clear hst hby hok hl64
      go_wp2_with fail
      refine (rpass_any _ HOK.out An cn _ ((al.drop i).take 64) (ca - i) HL64.out (fun j => ((HA256.out.drop i).take 64).at' j) A7 c7 wr hn'.out HBY.out ((N78.out.below hb.out (Nat.le_refl _)).more hb.out.size)).mono ?_
      rintro e w9 ⟨A9, c9, rfl, _, _, n9, b9⟩
      rw [show ∀ S, (lst8 S).length = 8 from fun _ => rfl]
      have N9 := hid n9
      have B9 := hid (hb.out.trans (b9.mono hb.out.size))
      clear n9 b9 HBY HOK hn'
      have ei : (i : Int) + 64 ≤ 9223372036854775807 := by have := hNs; omega
      go_wp2_with fail
      go_roundw
      case rel => exact ⟨k + 1, i + 64, A9, c9, hid (by have := hik.out; omega), HI64.out, by go_num, rfl, hid (by rw [HST.out]; exact N9.out), B9⟩
      case measure => simp [intOf] <;> omega
    · obtain rfl : i = N := by omega
      have hfull : al.take (64 * k) = al := by rw [← hik.out, ← HALL.out, List.take_length]
      have hN := hn'.out
      rw [hfull] at hN
      have hok := ShaM.passes_ok (l := al) _ (Nat.le_refl _) ShaM.seeds_ok
      generalize hT : ShaM.passes ShaM.seeds al = T at *
      have HT := hid hT
      have HTok := hid hok
      obtain ⟨bn, on, rfl, hBn, hrn⟩ := hN (by show 0 < 8; omega)
      have CN : Hid (∀ j, j < 8 → wr.cell? ⟨bn, on + j, none⟩ = some (.int .u32 (T.get j : Nat))) := hid fun j hj => by
        rw [← lst8_get T hj]; exact hrn j hj
      have hbw := B38.out.trans (hb.out.mono B38.out.size)
      have c1 := (B1.out.below hbw B1.out.lt)
      have bw := BEL.out.trans (hbw.mono BEL.out.size)
      have hwz : w.heap.size < wr.heap.size := c1.lt
      have C1 := hid c1
      have BW := hid bw
      clear hN hrn hok hT hbw c1 bw hn' N78 NA8 B38 hfull
      go_upto_region 11 with fail
      generalize hg7 : World.alloc wr _ = wa
      have d1 : Blk wa w.heap.size 25 (tag fun _ => 0) := by rw [← hg7]; exact C1.out.alloc _
      have d2 : Blk wa wr.heap.size 25 (tag (dg T (4 * 0))) := by rw [← hg7, Nat.mul_zero, dg_zero]; exact Blk.top zlit_tag rfl
      have db : Below w.heap.size w wa := by rw [← hg7]; exact BW.out.alloc (by omega) _
      have CA : Hid (∀ j, j < 8 → wa.cell? ⟨bn, on + j, none⟩ = some (.int .u32 (T.get j : Nat))) := hid fun j hj => by
        rw [← hg7]; exact (((Below.refl wr.heap.size wr).alloc (Nat.le_refl _) _).cell (p := ⟨bn, on + j, none⟩) hBn).trans (CN.out j hj)
      clear hg7 C1 BW CN
      obtain ⟨g, hg⟩ : ∃ g, g = wr.heap.size := ⟨_, rfl⟩
      rw [← hg] at d2 hBn hwz ⊢
      clear hg
      go_wp2_with fail
      go_loopw [8] (fun v wr => ∃ i : Nat, i ≤ 8 ∧ v = .int .i64 i ∧ Blk wr w.heap.size 25 (tag fun _ => 0) ∧ Blk wr g 25 (tag (dg T (4 * i))) ∧ Hid (∀ j, j < 8 → wr.cell? ⟨bn, on + j, none⟩ = some (.int .u32 (T.get j : Nat))) ∧ Hid (Below w.heap.size w wr)) (fun v _ => 8 - (intOf v).toNat)
      case atStart => exact ⟨0, by omega, rfl, d1, d2, CA, hid db⟩
      case round =>
        clear d1 d2 db CA
        obtain ⟨i, hi, rfl, d1, d2, ca', db⟩ := hrel
        by_cases hlt : i < 8
        · have ti : (i : Int) < 8 := by omega
          have x1 := ShaM.S8.get_lt HTok.out i
          have Q1 := hid (ca'.out i hlt)
          obtain ⟨c0, hc0⟩ : ∃ c, c = 4 * i := ⟨_, rfl⟩
          obtain ⟨c1, hc1⟩ : ∃ c, c = 4 * i + 1 := ⟨_, rfl⟩
          obtain ⟨c2, hc2⟩ : ∃ c, c = 4 * i + 2 := ⟨_, rfl⟩
          obtain ⟨c3, hc3⟩ : ∃ c, c = 4 * i + 3 := ⟨_, rfl⟩
          have E0 := hid (show IntKind.i64.wrap (4 * (i : Int)) = (c0 : Int) from wr_nat (by omega) (by omega))
          have E1 := hid (show IntKind.i64.wrap ((c0 : Int) + 1) = (c1 : Int) from wr_nat (by omega) (by omega))
          have E2 := hid (show IntKind.i64.wrap ((c0 : Int) + 2) = (c2 : Int) from wr_nat (by omega) (by omega))
          have E3 := hid (show IntKind.i64.wrap ((c0 : Int) + 3) = (c3 : Int) from wr_nat (by omega) (by omega))
          have t0 : (c0 : Int) < 32 := by omega
          have t1 : (c1 : Int) < 32 := by omega
          have t2 : (c2 : Int) < 32 := by omega
          have t3 : (c3 : Int) < 32 := by omega
          have D1 := hid d1
          have D2 := hid d2
          have DB := hid db
          have HC := hid (And.intro hc0 (And.intro hc1 (And.intro hc2 hc3)))
          have v0 := digest_at T i 0 (by omega)
          have v1' := digest_at T i 1 (by omega)
          have v2' := digest_at T i 2 (by omega)
          have v3' := digest_at T i 3 (by omega)
          have hst := dg_step4 T i
          rw [← hc3, ← hc2, ← hc1, ← hc0] at hst
          rw [Nat.add_zero, ← hc0] at v0
          rw [← hc1] at v1'
          rw [← hc2] at v2'
          rw [← hc3] at v3'
          have HV := hid (And.intro v0 (And.intro v1' (And.intro v2' v3')))
          have HST := hid hst
          clear d1 d2 db hc0 hc1 hc2 hc3 v0 v1' v2' v3' hst
          go_wp2_with fail
          refine wp_region_set (D := fun d w' => Below g wr w' ∧ Blk w' g 25 (tag (F4 c0 c1 c2 c3 (ShaM.digest T c0) (ShaM.digest T c1) (ShaM.digest T c2) (ShaM.digest T c3) (dg T c0) d))) st4 42 st4_lt (by kernel_rfl) (by kernel_rfl) (by kernel_rfl) ?_ ?_ ?_
          · intro d d' w' hd hw'
            refine ⟨hw'.1, ?_⟩
            have e : F4 c0 c1 c2 c3 (ShaM.digest T c0) (ShaM.digest T c1) (ShaM.digest T c2) (ShaM.digest T c3) (dg T c0) d' = F4 c0 c1 c2 c3 (ShaM.digest T c0) (ShaM.digest T c1) (ShaM.digest T c2) (ShaM.digest T c3) (dg T c0) d := funext fun j => by
              unfold F4
              rw [hd 35 rfl, hd 37 rfl, hd 39 rfl, hd 41 rfl]
            rw [e]; exact hw'.2
          · refine ⟨(Below.refl g wr).drew, ?_⟩
            have e : F4 c0 c1 c2 c3 (ShaM.digest T c0) (ShaM.digest T c1) (ShaM.digest T c2) (ShaM.digest T c3) (dg T c0) (fun _ => false) = dg T c0 := funext fun j => by
              unfold F4; simp
            rw [e, HC.out.1]; exact D2.out.drew
          simp only [List.take_succ_cons, List.take_zero, List.drop_succ_cons, List.drop_zero]
          apply wpM_val
          · rfl
          · rfl
          · intro dd w' hw'
            go_simp
            first | exact rfl | exact ⟨rfl, hw'⟩
          simp only [Act.put, List.setIfInBounds_toArray, List.set_cons_succ, List.set_cons_zero]
          apply wpM_val
          · rfl
          · rfl
          · intro dd w' hw'
            have h1 : _ := E0.out
            go_simp
            first | exact rfl | exact ⟨rfl, hw'⟩
          simp only [Act.put, List.setIfInBounds_toArray, List.set_cons_succ, List.set_cons_zero]
          apply wpM_val
          · rfl
          · rfl
          · intro dd w' hw'
            go_simp
            first | exact rfl | exact ⟨rfl, hw'⟩
          simp only [Act.put, List.setIfInBounds_toArray, List.set_cons_succ, List.set_cons_zero]
          apply wpM_val
          · rfl
          · rfl
          · intro dd w' hw'
            have h1 : _ := E0.out
            go_simp
            first | exact rfl | exact ⟨rfl, hw'⟩
          simp only [Act.put, List.setIfInBounds_toArray, List.set_cons_succ, List.set_cons_zero]
          apply wpM_val
          · rfl
          · rfl
          · intro dd w' hw'
            have h1 : _ := E1.out
            go_simp
            first | exact rfl | exact ⟨rfl, hw'⟩
          simp only [Act.put, List.setIfInBounds_toArray, List.set_cons_succ, List.set_cons_zero]
          apply wpM_val
          · rfl
          · rfl
          · intro dd w' hw'
            go_simp
            first | exact rfl | exact ⟨rfl, hw'⟩
          simp only [Act.put, List.setIfInBounds_toArray, List.set_cons_succ, List.set_cons_zero]
          apply wpM_val
          · rfl
          · rfl
          · intro dd w' hw'
            have h1 : _ := E0.out
            go_simp
            first | exact rfl | exact ⟨rfl, hw'⟩
          simp only [Act.put, List.setIfInBounds_toArray, List.set_cons_succ, List.set_cons_zero]
          apply wpM_val
          · rfl
          · rfl
          · intro dd w' hw'
            have h1 : _ := E2.out
            go_simp
            first | exact rfl | exact ⟨rfl, hw'⟩
          simp only [Act.put, List.setIfInBounds_toArray, List.set_cons_succ, List.set_cons_zero]
          apply wpM_val
          · rfl
          · rfl
          · intro dd w' hw'
            go_simp
            first | exact rfl | exact ⟨rfl, hw'⟩
          simp only [Act.put, List.setIfInBounds_toArray, List.set_cons_succ, List.set_cons_zero]
          apply wpM_val
          · rfl
          · rfl
          · intro dd w' hw'
            have h1 : _ := E0.out
            go_simp
            first | exact rfl | exact ⟨rfl, hw'⟩
          simp only [Act.put, List.setIfInBounds_toArray, List.set_cons_succ, List.set_cons_zero]
          apply wpM_val
          · rfl
          · rfl
          · intro dd w' hw'
            have h1 : _ := E3.out
            go_simp
            first | exact rfl | exact ⟨rfl, hw'⟩
          simp only [Act.put, List.setIfInBounds_toArray, List.set_cons_succ, List.set_cons_zero]
          apply wpM_val
          · rfl
          · rfl
          · intro dd w' hw'
            go_simp
            first | exact rfl | exact ⟨rfl, hw'⟩
          simp only [Act.put, List.setIfInBounds_toArray, List.set_cons_succ, List.set_cons_zero]
          apply wpM_val
          · rfl
          · rfl
          · intro dd w' hw'
            go_simp
            first | exact rfl | exact ⟨rfl, hw'⟩
          simp only [Act.put, List.setIfInBounds_toArray, List.set_cons_succ, List.set_cons_zero]
          apply wpM_val
          · rfl
          · rfl
          · intro dd w' hw'
            go_simp
            first | exact rfl | exact ⟨rfl, hw'⟩
          simp only [Act.put, List.setIfInBounds_toArray, List.set_cons_succ, List.set_cons_zero]
          apply wpM_val
          · rfl
          · rfl
          · intro dd w' hw'
            have hcell := (hw'.1.cell (p := ⟨bn, on + i, none⟩) hBn).trans Q1.out
            go_simp
            first | exact rfl | exact ⟨rfl, hw'⟩
          simp only [Act.put, List.setIfInBounds_toArray, List.set_cons_succ, List.set_cons_zero]
          apply wpM_val
          · rfl
          · rfl
          · intro dd w' hw'
            go_simp
            first | exact rfl | exact ⟨rfl, hw'⟩
          simp only [Act.put, List.setIfInBounds_toArray, List.set_cons_succ, List.set_cons_zero]
          apply wpM_val
          · rfl
          · rfl
          · intro dd w' hw'
            go_simp
            first | exact rfl | exact ⟨rfl, hw'⟩
          simp only [Act.put, List.setIfInBounds_toArray, List.set_cons_succ, List.set_cons_zero]
          apply wpM_val
          · rfl
          · rfl
          · intro dd w' hw'
            go_simp
            first | exact rfl | exact ⟨rfl, hw'⟩
          simp only [Act.put, List.setIfInBounds_toArray, List.set_cons_succ, List.set_cons_zero]
          apply wpM_val
          · rfl
          · rfl
          · intro dd w' hw'
            go_simp
            first | exact rfl | exact ⟨rfl, hw'⟩
          simp only [Act.put, List.setIfInBounds_toArray, List.set_cons_succ, List.set_cons_zero]
          apply wpM_val
          · rfl
          · rfl
          · intro dd w' hw'
            go_simp
            first | exact rfl | exact ⟨rfl, hw'⟩
          simp only [Act.put, List.setIfInBounds_toArray, List.set_cons_succ, List.set_cons_zero]
          apply wpM_val
          · rfl
          · rfl
          · intro dd w' hw'
            have hcell := (hw'.1.cell (p := ⟨bn, on + i, none⟩) hBn).trans Q1.out
            go_simp
            first | exact rfl | exact ⟨rfl, hw'⟩
          simp only [Act.put, List.setIfInBounds_toArray, List.set_cons_succ, List.set_cons_zero]
          apply wpM_val
          · rfl
          · rfl
          · intro dd w' hw'
            go_simp
            first | exact rfl | exact ⟨rfl, hw'⟩
          simp only [Act.put, List.setIfInBounds_toArray, List.set_cons_succ, List.set_cons_zero]
          apply wpM_val
          · rfl
          · rfl
          · intro dd w' hw'
            go_simp
            first | exact rfl | exact ⟨rfl, hw'⟩
          simp only [Act.put, List.setIfInBounds_toArray, List.set_cons_succ, List.set_cons_zero]
          apply wpM_val
          · rfl
          · rfl
          · intro dd w' hw'
            go_simp
            first | exact rfl | exact ⟨rfl, hw'⟩
          simp only [Act.put, List.setIfInBounds_toArray, List.set_cons_succ, List.set_cons_zero]
          apply wpM_val
          · rfl
          · rfl
          · intro dd w' hw'
            go_simp
            first | exact rfl | exact ⟨rfl, hw'⟩
          simp only [Act.put, List.setIfInBounds_toArray, List.set_cons_succ, List.set_cons_zero]
          apply wpM_val
          · rfl
          · rfl
          · intro dd w' hw'
            go_simp
            first | exact rfl | exact ⟨rfl, hw'⟩
          simp only [Act.put, List.setIfInBounds_toArray, List.set_cons_succ, List.set_cons_zero]
          apply wpM_val
          · rfl
          · rfl
          · intro dd w' hw'
            have hcell := (hw'.1.cell (p := ⟨bn, on + i, none⟩) hBn).trans Q1.out
            go_simp
            first | exact rfl | exact ⟨rfl, hw'⟩
          simp only [Act.put, List.setIfInBounds_toArray, List.set_cons_succ, List.set_cons_zero]
          apply wpM_val
          · rfl
          · rfl
          · intro dd w' hw'
            go_simp
            first | exact rfl | exact ⟨rfl, hw'⟩
          simp only [Act.put, List.setIfInBounds_toArray, List.set_cons_succ, List.set_cons_zero]
          apply wpM_val
          · rfl
          · rfl
          · intro dd w' hw'
            go_simp
            first | exact rfl | exact ⟨rfl, hw'⟩
          simp only [Act.put, List.setIfInBounds_toArray, List.set_cons_succ, List.set_cons_zero]
          apply wpM_val
          · rfl
          · rfl
          · intro dd w' hw'
            go_simp
            first | exact rfl | exact ⟨rfl, hw'⟩
          simp only [Act.put, List.setIfInBounds_toArray, List.set_cons_succ, List.set_cons_zero]
          apply wpM_val
          · rfl
          · rfl
          · intro dd w' hw'
            go_simp
            first | exact rfl | exact ⟨rfl, hw'⟩
          simp only [Act.put, List.setIfInBounds_toArray, List.set_cons_succ, List.set_cons_zero]
          apply wpM_val
          · rfl
          · rfl
          · intro dd w' hw'
            go_simp
            first | exact rfl | exact ⟨rfl, hw'⟩
          simp only [Act.put, List.setIfInBounds_toArray, List.set_cons_succ, List.set_cons_zero]
          apply wpM_val
          · rfl
          · rfl
          · intro dd w' hw'
            have hcell := (hw'.1.cell (p := ⟨bn, on + i, none⟩) hBn).trans Q1.out
            go_simp
            first | exact rfl | exact ⟨rfl, hw'⟩
          simp only [Act.put, List.setIfInBounds_toArray, List.set_cons_succ, List.set_cons_zero]
          apply wpM_val
          · rfl
          · rfl
          · intro dd w' hw'
            go_simp
            first | exact rfl | exact ⟨rfl, hw'⟩
          simp only [Act.put, List.setIfInBounds_toArray, List.set_cons_succ, List.set_cons_zero]
          apply wpM_val
          · rfl
          · rfl
          · intro dd w' hw'
            go_simp
            first | exact rfl | exact ⟨rfl, hw'⟩
          simp only [Act.put, List.setIfInBounds_toArray, List.set_cons_succ, List.set_cons_zero]
          apply wpM_put
          · rfl
          · rfl
          · intro d w' hd hw'
            have q := (hw'.2.cell c0).trans (get_tag (by omega))
            have qf := hw'.2.frozen c0
            go_simp
            refine ⟨rfl, hw'.1.setCell (Nat.le_refl _) _, ?_⟩
            have h := hw'.2.setCell_same c0 (.int .u8 (ShaM.digest T c0 : Nat))
            rw [tag_set] at h
            obtain ⟨hc0, hc1, hc2, hc3⟩ := HC.out
            obtain ⟨v0, v1', v2', v3'⟩ := HV.out
            have ev : IntKind.u8.wrap (IntKind.u32.wrap (((T.get i : Nat) : Int) / 16777216)) = ((ShaM.digest T c0 : Nat) : Int) := by
              rw [v0]; exact byte_wrap _ 16777216 x1
            have ef := F4_set0 c0 (ShaM.digest T c0) (ShaM.digest T c1) (ShaM.digest T c2) (ShaM.digest T c3) (dg T c0) d
            rw [← show c1 = c0 + 1 by omega, ← show c2 = c0 + 2 by omega, ← show c3 = c0 + 3 by omega] at ef
            rw [ev, ← ef]
            exact h
          simp only [Act.put, List.setIfInBounds_toArray, List.set_cons_succ, List.set_cons_zero]
          apply wpM_val
          · rfl
          · rfl
          · intro dd w' hw'
            go_simp
            first | exact rfl | exact ⟨rfl, hw'⟩
          simp only [Act.put, List.setIfInBounds_toArray, List.set_cons_succ, List.set_cons_zero]
          apply wpM_put
          · rfl
          · rfl
          · intro d w' hd hw'
            have q := (hw'.2.cell c1).trans (get_tag (by omega))
            have qf := hw'.2.frozen c1
            go_simp
            refine ⟨rfl, hw'.1.setCell (Nat.le_refl _) _, ?_⟩
            have h := hw'.2.setCell_same c1 (.int .u8 (ShaM.digest T c1 : Nat))
            rw [tag_set] at h
            obtain ⟨hc0, hc1, hc2, hc3⟩ := HC.out
            obtain ⟨v0, v1', v2', v3'⟩ := HV.out
            have ev : IntKind.u8.wrap (IntKind.u32.wrap (((T.get i : Nat) : Int) / 65536)) = ((ShaM.digest T c1 : Nat) : Int) := by
              rw [v1']; exact byte_wrap _ 65536 x1
            have ef := F4_set1 c0 (ShaM.digest T c0) (ShaM.digest T c1) (ShaM.digest T c2) (ShaM.digest T c3) (dg T c0) d
            rw [← show c1 = c0 + 1 by omega, ← show c2 = c0 + 2 by omega, ← show c3 = c0 + 3 by omega] at ef
            rw [ev, ← ef]
            exact h
          simp only [Act.put, List.setIfInBounds_toArray, List.set_cons_succ, List.set_cons_zero]
          apply wpM_val
          · rfl
          · rfl
          · intro dd w' hw'
            go_simp
            first | exact rfl | exact ⟨rfl, hw'⟩
          simp only [Act.put, List.setIfInBounds_toArray, List.set_cons_succ, List.set_cons_zero]
          apply wpM_put
          · rfl
          · rfl
          · intro d w' hd hw'
            have q := (hw'.2.cell c2).trans (get_tag (by omega))
            have qf := hw'.2.frozen c2
            go_simp
            refine ⟨rfl, hw'.1.setCell (Nat.le_refl _) _, ?_⟩
            have h := hw'.2.setCell_same c2 (.int .u8 (ShaM.digest T c2 : Nat))
            rw [tag_set] at h
            obtain ⟨hc0, hc1, hc2, hc3⟩ := HC.out
            obtain ⟨v0, v1', v2', v3'⟩ := HV.out
            have ev : IntKind.u8.wrap (IntKind.u32.wrap (((T.get i : Nat) : Int) / 256)) = ((ShaM.digest T c2 : Nat) : Int) := by
              rw [v2']; exact byte_wrap _ 256 x1
            have ef := F4_set2 c0 (ShaM.digest T c0) (ShaM.digest T c1) (ShaM.digest T c2) (ShaM.digest T c3) (dg T c0) d
            rw [← show c1 = c0 + 1 by omega, ← show c2 = c0 + 2 by omega, ← show c3 = c0 + 3 by omega] at ef
            rw [ev, ← ef]
            exact h
          simp only [Act.put, List.setIfInBounds_toArray, List.set_cons_succ, List.set_cons_zero]
          apply wpM_val
          · rfl
          · rfl
          · intro dd w' hw'
            go_simp
            first | exact rfl | exact ⟨rfl, hw'⟩
          simp only [Act.put, List.setIfInBounds_toArray, List.set_cons_succ, List.set_cons_zero]
          apply wpM_put
          · rfl
          · rfl
          · intro d w' hd hw'
            have q := (hw'.2.cell c3).trans (get_tag (by omega))
            have qf := hw'.2.frozen c3
            go_simp
            refine ⟨rfl, hw'.1.setCell (Nat.le_refl _) _, ?_⟩
            have h := hw'.2.setCell_same c3 (.int .u8 (ShaM.digest T c3 : Nat))
            rw [tag_set] at h
            obtain ⟨hc0, hc1, hc2, hc3⟩ := HC.out
            obtain ⟨v0, v1', v2', v3'⟩ := HV.out
            have ev : IntKind.u8.wrap ((T.get i : Nat) : Int) = ((ShaM.digest T c3 : Nat) : Int) := by
              rw [v3']; exact byte_wrap1 _
            have ef := F4_set3 c0 (ShaM.digest T c0) (ShaM.digest T c1) (ShaM.digest T c2) (ShaM.digest T c3) (dg T c0) d
            rw [← show c1 = c0 + 1 by omega, ← show c2 = c0 + 2 by omega, ← show c3 = c0 + 3 by omega] at ef
            rw [ev, ← ef]
            exact h
          simp only [Act.put, List.setIfInBounds_toArray, List.set_cons_succ, List.set_cons_zero]
          refine wpM_nil fun w5 hw5 => ?_
          have efull : F4 c0 c1 c2 c3 (ShaM.digest T c0) (ShaM.digest T c1) (ShaM.digest T c2) (ShaM.digest T c3) (dg T c0) (fun _ => true) = dg T (4 * (i + 1)) := by
            rw [← HST.out]
            exact funext fun j => by unfold F4; simp
          have g5 := hid hw5.2
          have b5 := hid hw5.1
          have DB5 := hid (DB.out.trans (hw5.1.mono (Nat.le_of_lt hwz)))
          have EF := hid efull
          clear hw5 efull
          go_wp2_with fail
          go_roundw
          case rel => exact ⟨i + 1, by omega, by go_num, D1.out.below b5.out hwz, by rw [← EF.out]; exact g5.out, hid fun j hj => (b5.out.cell (p := ⟨bn, on + j, none⟩) hBn).trans (ca'.out j hj), DB5⟩
          case measure => simp [intOf] <;> omega
        · obtain rfl : i = 8 := by omega
          rw [show 4 * 8 = 32 from rfl, dg_full] at d2
          have HD2 := hid d2
          have HDB := hid db
          clear ca' db
          go_wp2_with (first | ((with_reducible apply ldt); rfl; exact d2) | ((with_reducible apply stt); rfl; rfl; exact d1))
          apply ret_row Tryd.results22
          · exact d1.setRow_same _
          · exact Tryd.underlying25
          · rfl
          · exact (info_tag.trans (by rw [size_tag]))
          · rfl
          · rfl
          exact ⟨by rw [HAL.out, HT.out], below_setRow HDB.out (Nat.le_refl _) _⟩
end Go.Proofs.YtfgmgfniolmpkaaDoor
